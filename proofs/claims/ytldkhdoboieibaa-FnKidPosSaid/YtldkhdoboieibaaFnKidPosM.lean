/-
  'laws.FnKidPos' returns true at every slice of bytes, and leaves it as it was: of the node, the kid's place and the position that the model draws from it: impl.KidPos and the model give the same position; it is the zero position if the position is invalid, there is no such kid, or the node has no level; else it is valid, and it is Top or inherits NoIn and NoGt. No condition.
-/
import Derived.Test.YtldkhdoboieibaaRows
import Derived.Test.YtldkhdoboieibaaGC
import Derived.Test.YtldkhdoboieibaaGE
import Derived.Test.YtldkhdoboieibaaIsRow
import Derived.Deep.RegionLaw
import Derived.Deep.RegionHeld3
import Derived.Deep.CutRange
import Derived.Deep.CutBlock
import Derived.Deep.DeepCutAuto
import Derived.Deep.DeepHandedRow
namespace Go.Proofs.Ytldkhdoboieibaa.lawKidPos
open Go.ChangeShapes Go.WideShapes Go.ChangeAt Go.RowKit
open nd
open ps (B5 Ps kidI kidS top zero posOk)
open draw (N5)
open lv (levelOf box_below)
set_option linter.unusedVariables false
set_option maxRecDepth 20000

/-- The boxes: the node, the position, what the program answered. -/
structure K3 (b q : Nat) (W : World) (t : Nd) (ak : Option Addr) (ck : Nat) (L : Int) (d i g s : Bool) (ql : Int) (qd qi qg qs : Bool) : Prop where
  n : N5 b t.k t.op t.s t.t (.slice ak t.kids.length ck) W
  p : B5 (b + 1) L d i g s W
  r : B5 q ql qd qi qg qs W
theorem K3.keep {b q : Nat} {W : World} {t : Nd} {ak : Option Addr} {ck : Nat} {L ql : Int} {d i g s qd qi qg qs : Bool} {w1 : World} (h : K3 b q W t ak ck L d i g s ql qd qi qg qs) (hb : Below W.heap.size W w1) : K3 b q w1 t ak ck L d i g s ql qd qi qg qs := ⟨h.n.keep hb h.n.lt, h.p.keep hb h.p.lt, h.r.keep hb h.r.lt⟩
theorem K3.drew {b q : Nat} {W : World} {t : Nd} {ak : Option Addr} {ck : Nat} {L ql : Int} {d i g s qd qi qg qs : Bool} (h : K3 b q W t ak ck L d i g s ql qd qi qg qs) : K3 b q W.drew t ak ck L d i g s ql qd qi qg qs := ⟨h.n, h.p, h.r⟩
theorem K3.cells {b q : Nat} {W : World} {t : Nd} {ak : Option Addr} {ck : Nat} {L ql : Int} {d i g s qd qi qg qs : Bool} (h : K3 b q W t ak ck L d i g s ql qd qi qg qs) : W.cell? ⟨b, 0, none⟩ = some (.int .i64 t.k) ∧ W.cell? ⟨b, 1, none⟩ = some (.int .i64 t.op) ∧ W.cell? ⟨b, 2, none⟩ = some (.string t.s) ∧ W.cell? ⟨b, 3, none⟩ = some (.string t.t) ∧ W.cell? ⟨b, 4, none⟩ = some (.slice ak t.kids.length ck) ∧ W.cell? ⟨b + 1, 0, none⟩ = some (.int .i64 (L)) ∧ W.cell? ⟨b + 1, 1, none⟩ = some (.bool (d)) ∧ W.cell? ⟨b + 1, 2, none⟩ = some (.bool (i)) ∧ W.cell? ⟨b + 1, 3, none⟩ = some (.bool (g)) ∧ W.cell? ⟨b + 1, 4, none⟩ = some (.bool (s)) ∧ W.cell? ⟨q, 0, none⟩ = some (.int .i64 (ql)) ∧ W.cell? ⟨q, 1, none⟩ = some (.bool (qd)) ∧ W.cell? ⟨q, 2, none⟩ = some (.bool (qi)) ∧ W.cell? ⟨q, 3, none⟩ = some (.bool (qg)) ∧ W.cell? ⟨q, 4, none⟩ = some (.bool (qs)) :=
  ⟨h.n.c.1, h.n.c.2.1, h.n.c.2.2.1, h.n.c.2.2.2.1, h.n.c.2.2.2.2, h.p.c.1, h.p.c.2.1, h.p.c.2.2.1, h.p.c.2.2.2.1, h.p.c.2.2.2.2, h.r.c.1, h.r.c.2.1, h.r.c.2.2.1, h.r.c.2.2.2.1, h.r.c.2.2.2.2⟩
theorem kid_same2 (k op : Int) (n : Nat) (K L : Int) (d i g s : Bool) (h : k = 12 → n ≤ 2) : kidI k op n K L d i g s = kidS k op n K L d i g s := by
  by_cases hv : posOk L d = true ∧ 0 ≤ K ∧ K < (n : Int) ∧ ¬ levelOf k op = 0
  · exact ps.kid_same k op n K L d i g s (fun h1 _ => by have := h h1; omega)
  · unfold kidI kidS
    rw [if_neg hv, if_neg hv]

set_option maxHeartbeats 8000000 in
theorem core {a : Option Addr} {len cap : Nat} {zs : List Int} {w : World} (hc : draw.Code w.heap.size w a len zs) (hl : len ≤ 1048576) :
    Calls Try.prog 3 #[.slice a len cap] w fun e w' => e = .returned (.bool true) ∧ Below w.heap.size w w' := by
  have HC := Lib.hid hc
  clear hc
  have hbig : decide (1048576 < len) = false := by simp; omega
  go_enter Try.func3, Try.ntmps3
  go_wp2_with fail
  refine (draw.big_any a len cap _ (by omega)).mono ?_
  rintro e w' ⟨he, rfl⟩
  rw [hbig] at he
  subst he
  clear hbig
  go_wp2_with fail
  refine (draw.drawKidPos_any HC.out hl).mono ?_
  rintro e w1 ⟨t, ak, ck, K, L, d, i, g, s, rfl, hkn, har, hKn, b1⟩
  have HKN := Lib.hid (show t.kids.length ≤ 1048576 by omega)
  have HKK := Lib.hid hKn
  obtain ⟨⟨ql, qd, qi, qg, qs⟩, hq⟩ : ∃ Q : Ps, kidS t.k t.op t.kids.length K L d i g s = Q := ⟨_, rfl⟩
  have HQ := Lib.hid hq
  have HCI := Lib.hid (fun W => ps.impl_kidPos t.k t.op t.s t.t ak t.kids.length ck K L d i g s W HKN.out)
  have HCS := Lib.hid (fun W => ps.spec_kidPos t.k t.op t.s t.t ak t.kids.length ck K L d i g s W HKN.out)
  rw [kid_same2 t.k t.op t.kids.length K L d i g s har, hq] at HCI
  rw [hq] at HCS
  dsimp only at HCI HCS
  obtain ⟨W, hW⟩ : ∃ W, W = (w1.alloc (.cells #[.int .i64 t.k, .int .i64 t.op, .string t.s, .string t.t, .slice ak t.kids.length ck] 26)).alloc (.cells #[.int .i64 (L), .bool (d), .bool (i), .bool (g), .bool (s)] 28) := ⟨_, rfl⟩
  obtain ⟨b, hb⟩ : ∃ b, b = w1.heap.size := ⟨_, rfl⟩
  have hbw : w.heap.size ≤ b := by rw [hb]; exact b1.size
  have BW := Lib.hid (show Below w.heap.size w W by rw [hW]; exact b1.trans (((box_below _ _).trans ((box_below _ _).mono (by simp))).mono b1.size))
  have NW := Lib.hid (show N5 b t.k t.op t.s t.t (.slice ak t.kids.length ck) W by rw [hW, hb]; exact (N5.new w1 _ _ _ _ _).keep (box_below _ _) (N5.lt (N5.new w1 _ _ _ _ _)))
  have PW := Lib.hid (show B5 (b + 1) L d i g s W by
    have h := B5.new (w1.alloc (.cells #[.int .i64 t.k, .int .i64 t.op, .string t.s, .string t.t, .slice ak t.kids.length ck] 26)) L d i g s
    have e : (w1.alloc (.cells #[.int .i64 t.k, .int .i64 t.op, .string t.s, .string t.t, .slice ak t.kids.length ck] 26)).heap.size = w1.heap.size + 1 := by simp
    rw [e, ← hW, ← hb] at h
    exact h)
  clear hkn har hKn hq b1
  go_upto_region 4 with (fail)
  rw [← hW, ← hb]
  clear hW hb
  obtain ⟨n0, n1, n2, n3, n4⟩ := NW.out.c
  obtain ⟨p0, p1, p2, p3, p4⟩ := PW.out.c
  go_wp2_with fail
  refine (HCI.out _).mono ?_
  rintro e w3 ⟨rfl, b3⟩
  clear n0 n1 n2 n3 n4 p0 p1 p2 p3 p4
  obtain ⟨W4, hW4⟩ : ∃ W4, W4 = w3.alloc (.cells #[.int .i64 (ql), .bool (qd), .bool (qi), .bool (qg), .bool (qs)] 28) := ⟨_, rfl⟩
  obtain ⟨q, hq⟩ : ∃ q, q = w3.heap.size := ⟨_, rfl⟩
  have B4 := Lib.hid (show Below w.heap.size w W4 by rw [hW4]; exact (BW.out.trans (b3.mono BW.out.size)).trans ((box_below _ _).mono (BW.out.trans (b3.mono BW.out.size)).size))
  have K4 := Lib.hid (show K3 b q W4 t ak ck L d i g s ql qd qi qg qs by
    rw [hW4, hq]
    exact ⟨(NW.out.keep b3 NW.out.lt).keep (box_below _ _) (NW.out.keep b3 NW.out.lt).lt, (PW.out.keep b3 PW.out.lt).keep (box_below _ _) (PW.out.keep b3 PW.out.lt).lt, B5.new _ _ _ _ _ _⟩)
  clear b3
  go_upto_region 5 with (fail)
  rw [← hW4, ← hq]
  clear hW4 hq
  have u0 : (ql == ql) = true := by simp
  have u1 : (qd == qd) = true := by simp
  have u2 : (qi == qi) = true := by simp
  have u3 : (qg == qg) = true := by simp
  have u4 : (qs == qs) = true := by simp
  go_region_held3 (fun w' => w'.cell? ⟨b, 0, none⟩ = some (.int .i64 t.k) ∧ w'.cell? ⟨b, 1, none⟩ = some (.int .i64 t.op) ∧ w'.cell? ⟨b, 2, none⟩ = some (.string t.s) ∧ w'.cell? ⟨b, 3, none⟩ = some (.string t.t) ∧ w'.cell? ⟨b, 4, none⟩ = some (.slice ak t.kids.length ck) ∧ w'.cell? ⟨b + 1, 0, none⟩ = some (.int .i64 (L)) ∧ w'.cell? ⟨b + 1, 1, none⟩ = some (.bool (d)) ∧ w'.cell? ⟨b + 1, 2, none⟩ = some (.bool (i)) ∧ w'.cell? ⟨b + 1, 3, none⟩ = some (.bool (g)) ∧ w'.cell? ⟨b + 1, 4, none⟩ = some (.bool (s)) ∧ w'.cell? ⟨q, 0, none⟩ = some (.int .i64 (ql)) ∧ w'.cell? ⟨q, 1, none⟩ = some (.bool (qd)) ∧ w'.cell? ⟨q, 2, none⟩ = some (.bool (qi)) ∧ w'.cell? ⟨q, 3, none⟩ = some (.bool (qg)) ∧ w'.cell? ⟨q, 4, none⟩ = some (.bool (qs)))
    (first | with_reducible assumption | with_reducible exact K4.out.drew.cells | with_reducible exact K4.out.cells | with_reducible exact K7.out.cells)
    (first | (go_at_call 11; refine (HCS.out _).mono ?_; rintro e w7 ⟨rfl, b7⟩; have K7 := Lib.hid (K4.out.drew.keep b7); have B7 := Lib.hid (B4.out.drew.trans (b7.mono B4.out.drew.size)); obtain ⟨x_g0, x_g1, x_g2, x_g3, x_g4, y_g0, y_g1, y_g2, y_g3, y_g4, z_g0, z_g1, z_g2, z_g3, z_g4⟩ := K7.out.cells; clear b7))
  go_upto_region 7 with (fail)
  clear u0 u1 u2 u3 u4
  obtain ⟨P, hP⟩ : ∃ P, posOk L d = P := ⟨_, rfl⟩
  have HP := Lib.hid hP
  obtain ⟨V, hV⟩ : ∃ V, levelOf t.k t.op = V := ⟨_, rfl⟩
  have HV := Lib.hid hV
  have e1 : decide ((K : Int) < 0) = false := by simp
  by_cases hv : posOk L d = true ∧ (0 : Int) ≤ (K : Int) ∧ (K : Int) < (t.kids.length : Int) ∧ ¬ levelOf t.k t.op = 0
  · have hgood := ps.kid_good t.k t.op t.kids.length K L d i g s hv
    rw [HQ.out] at hgood
    dsimp only at hgood
    obtain ⟨hG, hT⟩ := hgood
    have HG := Lib.hid hG
    have k1 : K < t.kids.length := by have := hv.2.2.1; omega
    have k2 : ¬ t.kids.length ≤ K := by omega
    have e3 : (V == 0) = false := by have := hv.2.2.2; rw [hV] at this; simp [this]
    rw [hP] at hv
    obtain ⟨rfl, -⟩ := hv
    clear hP hV
    by_cases htop : ql = 1 ∧ qd = false ∧ qi = false ∧ qg = false ∧ qs = false
    · obtain ⟨t1, t2, t3, t4, t5⟩ := htop
      subst t1 t2 t3 t4 t5
      clear hG hT
      go_wp2_with (first | (go_at_call 12; refine (ps.spec_ok _ _ _ _ _ _).mono ?_; rw [HP.out]; rintro e w8 ⟨rfl, b8⟩; have K8 := Lib.hid (K7.out.keep b8); have B8 := Lib.hid (B7.out.trans (b8.mono B7.out.size)); obtain ⟨xh_0, xh_1, xh_2, xh_3, xh_4, yh_0, yh_1, yh_2, yh_3, yh_4, zh_0, zh_1, zh_2, zh_3, zh_4⟩ := K8.out.cells; clear b8) | (go_at_call 13; refine (lv.spec_level _ _ _ _ _ _ _ _).mono ?_; rw [HV.out]; rintro e w9 ⟨rfl, b9⟩; have K9 := Lib.hid (K8.out.keep b9); have B9 := Lib.hid (B8.out.trans (b9.mono B8.out.size)); obtain ⟨xi_0, xi_1, xi_2, xi_3, xi_4, yi_0, yi_1, yi_2, yi_3, yi_4, zi_0, zi_1, zi_2, zi_3, zi_4⟩ := K9.out.cells; clear b9))
      refine wp_region_noPanic ?_
      refine wp_region_held_drew (S := fun w' => w'.cell? ⟨b, 0, none⟩ = some (.int .i64 t.k) ∧ w'.cell? ⟨b, 1, none⟩ = some (.int .i64 t.op) ∧ w'.cell? ⟨b, 2, none⟩ = some (.string t.s) ∧ w'.cell? ⟨b, 3, none⟩ = some (.string t.t) ∧ w'.cell? ⟨b, 4, none⟩ = some (.slice ak t.kids.length ck) ∧ w'.cell? ⟨b + 1, 0, none⟩ = some (.int .i64 (L)) ∧ w'.cell? ⟨b + 1, 1, none⟩ = some (.bool (d)) ∧ w'.cell? ⟨b + 1, 2, none⟩ = some (.bool (i)) ∧ w'.cell? ⟨b + 1, 3, none⟩ = some (.bool (g)) ∧ w'.cell? ⟨b + 1, 4, none⟩ = some (.bool (s)) ∧ w'.cell? ⟨q, 0, none⟩ = some (.int .i64 (1)) ∧ w'.cell? ⟨q, 1, none⟩ = some (.bool (false)) ∧ w'.cell? ⟨q, 2, none⟩ = some (.bool (false)) ∧ w'.cell? ⟨q, 3, none⟩ = some (.bool (false)) ∧ w'.cell? ⟨q, 4, none⟩ = some (.bool (false))) (by kernel_rfl) ?_ (fun hHeld => ?_)
      · exact K9.out.drew.cells
      refine wpAnyH_take (i := 0) (oi := { dst := some 47, op := Op.load 28 (Operand.tmp 6), type := 28, pos := "laws.go:410", after := #[], guard := none }) (v := (.agg #[.int .i64 1, .bool false, .bool false, .bool false, .bool false])) rfl (by kernel_rfl) (by kernel_rfl) (by kernel_rfl) (fun _ _ _ h => h) (Or.inl ⟨by rfl, ?_⟩) (by assumption) ?_
      · (intro w hSw; (try dsimp only at hSw); go_simp)
      (try simp only [Act.put, List.setIfInBounds_toArray, List.set_cons_zero, List.set_cons_succ])
      refine wpAnyH_ready (rs := [1]) (by kernel_rfl) (by simp) ?_
      refine AllReadyH.cons (o := { dst := some 48, op := Op.call { callee := Callee.value (Operand.func 14), args := #[Operand.tmp 47], argTypes := #[28] }, type := 4, pos := "laws.go:410", after := #[{ on := 0, ground := Ground.data }], guard := none }) rfl (fun KK hKK => ?_) AllReadyH.nil
      go_simp
      (go_at_call 14; refine (ps.impl_ok _ _ _ _ _ _).mono ?_; rw [HG.out]; rintro e w11 ⟨rfl, b11⟩; have K11 := Lib.hid (K9.out.drew.keep b11); have B11 := Lib.hid (B9.out.drew.trans (b11.mono B9.out.drew.size)); obtain ⟨xk_0, xk_1, xk_2, xk_3, xk_4, yk_0, yk_1, yk_2, yk_3, yk_4, zk_0, zk_1, zk_2, zk_3, zk_4⟩ := K11.out.cells; clear b11)
      first | (go_wp2_with fail) | skip
      refine hKK.out _ _ ?_ (fun hHeld => ?_)
      · exact K11.out.cells
      clear hKK KK
      (try simp only [Act.put, List.setIfInBounds_toArray, List.set_cons_zero, List.set_cons_succ])
      refine wpAnyH_take (i := 2) (oi := { dst := some 49, op := Op.move (Operand.tmp 48), type := 4, pos := "laws.go:410", after := #[{ on := 1, ground := Ground.data }, { on := 1, ground := Ground.chain }], guard := none }) (v := (.bool true)) rfl (by kernel_rfl) (by kernel_rfl) (by kernel_rfl) (fun _ _ _ h => h) (Or.inl ⟨by rfl, ?_⟩) (by assumption) ?_
      · (intro w hSw; (try dsimp only at hSw); go_simp)
      (try simp only [Act.put, List.setIfInBounds_toArray, List.set_cons_zero, List.set_cons_succ])
      refine wpAnyH_take (i := 3) (oi := { dst := some 50, op := Op.load 28 (Operand.tmp 6), type := 28, pos := "laws.go:410", after := #[{ on := 2, ground := Ground.guard }], guard := some (2, true) }) (v := (.agg #[.int .i64 1, .bool false, .bool false, .bool false, .bool false])) rfl (by kernel_rfl) (by kernel_rfl) (by kernel_rfl) (fun _ _ _ h => h) (Or.inl ⟨by rfl, ?_⟩) (by assumption) ?_
      · (intro w hSw; (try dsimp only at hSw); go_simp)
      (try simp only [Act.put, List.setIfInBounds_toArray, List.set_cons_zero, List.set_cons_succ])
      refine wpAnyH_ready (rs := [4]) (by kernel_rfl) (by simp) ?_
      refine AllReadyH.cons (o := { dst := some 51, op := Op.call { callee := Callee.value (Operand.func 15), args := #[], argTypes := #[] }, type := 28, pos := "laws.go:410", after := #[{ on := 2, ground := Ground.chain }, { on := 2, ground := Ground.guard }], guard := some (2, true) }) rfl (fun KK hKK => ?_) AllReadyH.nil
      go_simp
      (go_at_call 15; refine (ps.impl_top _).mono ?_; rintro e w12 ⟨rfl, b12⟩; have K12 := Lib.hid (K11.out.keep b12); have B12 := Lib.hid (B11.out.trans (b12.mono B11.out.size)); obtain ⟨xl_0, xl_1, xl_2, xl_3, xl_4, yl_0, yl_1, yl_2, yl_3, yl_4, zl_0, zl_1, zl_2, zl_3, zl_4⟩ := K12.out.cells; clear b12)
      first | (go_wp2_with fail) | skip
      refine hKK.out _ _ ?_ (fun hHeld => ?_)
      · exact K12.out.cells
      clear hKK KK
      (try simp only [Act.put, List.setIfInBounds_toArray, List.set_cons_zero, List.set_cons_succ])
      refine wpAnyH_take (i := 5) (oi := { dst := some 52, op := Op.binOp BinOp.eql 28 (Operand.tmp 50) (Operand.tmp 51) 28, type := 4, pos := "laws.go:410", after := #[{ on := 3, ground := Ground.data }, { on := 4, ground := Ground.data }, { on := 2, ground := Ground.guard }], guard := some (2, true) }) (v := (.bool true)) rfl (by kernel_rfl) (by kernel_rfl) (by kernel_rfl) (fun _ _ _ h => h) (Or.inl ⟨by rfl, ?_⟩) (by assumption) ?_
      · (intro w hSw; (try dsimp only at hSw); go_simp)
      (try simp only [Act.put, List.setIfInBounds_toArray, List.set_cons_zero, List.set_cons_succ])
      refine wpAnyH_take (i := 6) (oi := { dst := some 53, op := Op.move (Operand.tmp 52), type := 4, pos := "laws.go:410", after := #[{ on := 5, ground := Ground.data }, { on := 4, ground := Ground.chain }, { on := 2, ground := Ground.guard }], guard := some (2, true) }) (v := (.bool true)) rfl (by kernel_rfl) (by kernel_rfl) (by kernel_rfl) (fun _ _ _ h => h) (Or.inl ⟨by rfl, ?_⟩) (by assumption) ?_
      · (intro w hSw; (try dsimp only at hSw); go_simp)
      (try simp only [Act.put, List.setIfInBounds_toArray, List.set_cons_zero, List.set_cons_succ])
      refine wpAnyH_take (i := 7) (oi := { dst := some 54, op := Op.fieldAddr 28 (Operand.tmp 6) 2, type := 0, pos := "laws.go:410", after := #[{ on := 6, ground := Ground.guard }], guard := some (6, false) }) (v := undef) rfl (by kernel_rfl) (by kernel_rfl) (by kernel_rfl) (fun _ _ _ h => h) (Or.inr ⟨by rfl, rfl⟩) (by assumption) ?_
      (try simp only [Act.put, List.setIfInBounds_toArray, List.set_cons_zero, List.set_cons_succ])
      refine wpAnyH_take (i := 8) (oi := { dst := some 55, op := Op.load 4 (Operand.tmp 54), type := 4, pos := "laws.go:410", after := #[{ on := 7, ground := Ground.data }, { on := 6, ground := Ground.guard }], guard := some (6, false) }) (v := undef) rfl (by kernel_rfl) (by kernel_rfl) (by kernel_rfl) (fun _ _ _ h => h) (Or.inr ⟨by rfl, rfl⟩) (by assumption) ?_
      (try simp only [Act.put, List.setIfInBounds_toArray, List.set_cons_zero, List.set_cons_succ])
      refine wpAnyH_take (i := 9) (oi := { dst := some 56, op := Op.fieldAddr 28 (Operand.tmp 5) 2, type := 0, pos := "laws.go:410", after := #[{ on := 6, ground := Ground.guard }], guard := some (6, false) }) (v := undef) rfl (by kernel_rfl) (by kernel_rfl) (by kernel_rfl) (fun _ _ _ h => h) (Or.inr ⟨by rfl, rfl⟩) (by assumption) ?_
      (try simp only [Act.put, List.setIfInBounds_toArray, List.set_cons_zero, List.set_cons_succ])
      refine wpAnyH_take (i := 10) (oi := { dst := some 57, op := Op.load 4 (Operand.tmp 56), type := 4, pos := "laws.go:410", after := #[{ on := 9, ground := Ground.data }, { on := 6, ground := Ground.guard }], guard := some (6, false) }) (v := undef) rfl (by kernel_rfl) (by kernel_rfl) (by kernel_rfl) (fun _ _ _ h => h) (Or.inr ⟨by rfl, rfl⟩) (by assumption) ?_
      (try simp only [Act.put, List.setIfInBounds_toArray, List.set_cons_zero, List.set_cons_succ])
      refine wpAnyH_take (i := 11) (oi := { dst := some 58, op := Op.binOp BinOp.eql 4 (Operand.tmp 55) (Operand.tmp 57) 4, type := 4, pos := "laws.go:410", after := #[{ on := 8, ground := Ground.data }, { on := 10, ground := Ground.data }, { on := 6, ground := Ground.guard }], guard := some (6, false) }) (v := undef) rfl (by kernel_rfl) (by kernel_rfl) (by kernel_rfl) (fun _ _ _ h => h) (Or.inr ⟨by rfl, rfl⟩) (by assumption) ?_
      (try simp only [Act.put, List.setIfInBounds_toArray, List.set_cons_zero, List.set_cons_succ])
      refine wpAnyH_take (i := 12) (oi := { dst := some 59, op := Op.move (Operand.tmp 58), type := 4, pos := "laws.go:410", after := #[{ on := 11, ground := Ground.data }, { on := 6, ground := Ground.chain }, { on := 6, ground := Ground.guard }], guard := some (6, false) }) (v := undef) rfl (by kernel_rfl) (by kernel_rfl) (by kernel_rfl) (fun _ _ _ h => h) (Or.inr ⟨by rfl, rfl⟩) (by assumption) ?_
      (try simp only [Act.put, List.setIfInBounds_toArray, List.set_cons_zero, List.set_cons_succ])
      refine wpAnyH_take (i := 13) (oi := { dst := some 60, op := Op.fieldAddr 28 (Operand.tmp 6) 3, type := 0, pos := "laws.go:410", after := #[{ on := 12, ground := Ground.guard }], guard := some (12, true) }) (v := undef) rfl (by kernel_rfl) (by kernel_rfl) (by kernel_rfl) (fun _ _ _ h => h) (Or.inr ⟨by rfl, rfl⟩) (by assumption) ?_
      (try simp only [Act.put, List.setIfInBounds_toArray, List.set_cons_zero, List.set_cons_succ])
      refine wpAnyH_take (i := 14) (oi := { dst := some 61, op := Op.load 4 (Operand.tmp 60), type := 4, pos := "laws.go:410", after := #[{ on := 13, ground := Ground.data }, { on := 12, ground := Ground.guard }], guard := some (12, true) }) (v := undef) rfl (by kernel_rfl) (by kernel_rfl) (by kernel_rfl) (fun _ _ _ h => h) (Or.inr ⟨by rfl, rfl⟩) (by assumption) ?_
      (try simp only [Act.put, List.setIfInBounds_toArray, List.set_cons_zero, List.set_cons_succ])
      refine wpAnyH_take (i := 15) (oi := { dst := some 62, op := Op.fieldAddr 28 (Operand.tmp 5) 3, type := 0, pos := "laws.go:410", after := #[{ on := 12, ground := Ground.guard }], guard := some (12, true) }) (v := undef) rfl (by kernel_rfl) (by kernel_rfl) (by kernel_rfl) (fun _ _ _ h => h) (Or.inr ⟨by rfl, rfl⟩) (by assumption) ?_
      (try simp only [Act.put, List.setIfInBounds_toArray, List.set_cons_zero, List.set_cons_succ])
      refine wpAnyH_take (i := 16) (oi := { dst := some 63, op := Op.load 4 (Operand.tmp 62), type := 4, pos := "laws.go:410", after := #[{ on := 15, ground := Ground.data }, { on := 12, ground := Ground.guard }], guard := some (12, true) }) (v := undef) rfl (by kernel_rfl) (by kernel_rfl) (by kernel_rfl) (fun _ _ _ h => h) (Or.inr ⟨by rfl, rfl⟩) (by assumption) ?_
      (try simp only [Act.put, List.setIfInBounds_toArray, List.set_cons_zero, List.set_cons_succ])
      refine wpAnyH_take (i := 17) (oi := { dst := some 64, op := Op.binOp BinOp.eql 4 (Operand.tmp 61) (Operand.tmp 63) 4, type := 4, pos := "laws.go:410", after := #[{ on := 14, ground := Ground.data }, { on := 16, ground := Ground.data }, { on := 12, ground := Ground.guard }], guard := some (12, true) }) (v := undef) rfl (by kernel_rfl) (by kernel_rfl) (by kernel_rfl) (fun _ _ _ h => h) (Or.inr ⟨by rfl, rfl⟩) (by assumption) ?_
      (try simp only [Act.put, List.setIfInBounds_toArray, List.set_cons_zero, List.set_cons_succ])
      refine wpAnyH_take (i := 18) (oi := { dst := some 65, op := Op.pick (Operand.tmp 59) (Operand.tmp 64) (Operand.const (Value.bool false)), type := 4, pos := "laws.go:410", after := #[{ on := 12, ground := Ground.data }, { on := 17, ground := Ground.data }, { on := 6, ground := Ground.guard }], guard := some (6, false) }) (v := undef) rfl (by kernel_rfl) (by kernel_rfl) (by kernel_rfl) (fun _ _ _ h => h) (Or.inr ⟨by rfl, rfl⟩) (by assumption) ?_
      (try simp only [Act.put, List.setIfInBounds_toArray, List.set_cons_zero, List.set_cons_succ])
      refine wpAnyH_take (i := 19) (oi := { dst := some 66, op := Op.pick (Operand.tmp 53) (Operand.const (Value.bool true)) (Operand.tmp 65), type := 4, pos := "laws.go:410", after := #[{ on := 6, ground := Ground.data }, { on := 18, ground := Ground.data }, { on := 2, ground := Ground.guard }], guard := some (2, true) }) (v := (.bool true)) rfl (by kernel_rfl) (by kernel_rfl) (by kernel_rfl) (fun _ _ _ h => h) (Or.inl ⟨by rfl, ?_⟩) (by assumption) ?_
      · (intro w hSw; (try dsimp only at hSw); go_simp)
      (try simp only [Act.put, List.setIfInBounds_toArray, List.set_cons_zero, List.set_cons_succ])
      refine wpAnyH_take (i := 20) (oi := { dst := some 67, op := Op.pick (Operand.tmp 49) (Operand.tmp 66) (Operand.const (Value.bool false)), type := 4, pos := "laws.go:410", after := #[{ on := 2, ground := Ground.data }, { on := 19, ground := Ground.data }], guard := none }) (v := (.bool true)) rfl (by kernel_rfl) (by kernel_rfl) (by kernel_rfl) (fun _ _ _ h => h) (Or.inl ⟨by rfl, ?_⟩) (by assumption) ?_
      · (intro w hSw; (try dsimp only at hSw); go_simp)
      (try simp only [Act.put, List.setIfInBounds_toArray, List.set_cons_zero, List.set_cons_succ])
      refine wpAnyH_take (i := 21) (oi := { dst := some 2, op := Op.assign (Operand.tmp 67), type := 4, pos := "laws.go:410", after := #[{ on := 20, ground := Ground.data }, { on := 12, ground := Ground.chain }, { on := 0, ground := Ground.phase }, { on := 1, ground := Ground.phase }, { on := 2, ground := Ground.phase }, { on := 3, ground := Ground.phase }, { on := 4, ground := Ground.phase }, { on := 5, ground := Ground.phase }, { on := 6, ground := Ground.phase }, { on := 7, ground := Ground.phase }, { on := 8, ground := Ground.phase }, { on := 9, ground := Ground.phase }, { on := 10, ground := Ground.phase }, { on := 11, ground := Ground.phase }, { on := 12, ground := Ground.phase }, { on := 13, ground := Ground.phase }, { on := 14, ground := Ground.phase }, { on := 15, ground := Ground.phase }, { on := 16, ground := Ground.phase }, { on := 17, ground := Ground.phase }, { on := 18, ground := Ground.phase }, { on := 19, ground := Ground.phase }, { on := 20, ground := Ground.phase }], guard := none }) (v := (.bool true)) rfl (by kernel_rfl) (by kernel_rfl) (by kernel_rfl) (fun _ _ _ h => h) (Or.inl ⟨by rfl, ?_⟩) (by assumption) ?_
      · (intro w hSw; (try dsimp only at hSw); go_simp)
      (try simp only [Act.put, List.setIfInBounds_toArray, List.set_cons_zero, List.set_cons_succ])
      refine wpAnyH_done (by kernel_rfl) ?_ _
      refine NoPanic.normal ?_
      go_wp2
      go_ret
      exact ⟨rfl, B12.out⟩
    · have hT2 : qi = i ∧ qg = g := by
        rcases hT with hT | hT
        · injection hT with t1 t2 t3 t4 t5
          exact absurd ⟨t1, t2, t3, t4, t5⟩ htop
        · exact hT
      obtain ⟨rfl, rfl⟩ := hT2
      clear hT
      by_cases h1 : ql = 1
      · subst h1
        cases qd
        · clear hG
          cases qi
          · cases qg
            · cases qs
              · exact absurd ⟨rfl, rfl, rfl, rfl, rfl⟩ htop
              · clear htop
                go_wp2_with (first | (go_at_call 12; refine (ps.spec_ok _ _ _ _ _ _).mono ?_; rw [HP.out]; rintro e w8 ⟨rfl, b8⟩; have K8 := Lib.hid (K7.out.keep b8); have B8 := Lib.hid (B7.out.trans (b8.mono B7.out.size)); obtain ⟨xh_0, xh_1, xh_2, xh_3, xh_4, yh_0, yh_1, yh_2, yh_3, yh_4, zh_0, zh_1, zh_2, zh_3, zh_4⟩ := K8.out.cells; clear b8) | (go_at_call 13; refine (lv.spec_level _ _ _ _ _ _ _ _).mono ?_; rw [HV.out]; rintro e w9 ⟨rfl, b9⟩; have K9 := Lib.hid (K8.out.keep b9); have B9 := Lib.hid (B8.out.trans (b9.mono B8.out.size)); obtain ⟨xi_0, xi_1, xi_2, xi_3, xi_4, yi_0, yi_1, yi_2, yi_3, yi_4, zi_0, zi_1, zi_2, zi_3, zi_4⟩ := K9.out.cells; clear b9))
                go_region_held3 (fun w' => w'.cell? ⟨b, 0, none⟩ = some (.int .i64 t.k) ∧ w'.cell? ⟨b, 1, none⟩ = some (.int .i64 t.op) ∧ w'.cell? ⟨b, 2, none⟩ = some (.string t.s) ∧ w'.cell? ⟨b, 3, none⟩ = some (.string t.t) ∧ w'.cell? ⟨b, 4, none⟩ = some (.slice ak t.kids.length ck) ∧ w'.cell? ⟨b + 1, 0, none⟩ = some (.int .i64 (L)) ∧ w'.cell? ⟨b + 1, 1, none⟩ = some (.bool (d)) ∧ w'.cell? ⟨b + 1, 2, none⟩ = some (.bool (false)) ∧ w'.cell? ⟨b + 1, 3, none⟩ = some (.bool (false)) ∧ w'.cell? ⟨b + 1, 4, none⟩ = some (.bool (s)) ∧ w'.cell? ⟨q, 0, none⟩ = some (.int .i64 (1)) ∧ w'.cell? ⟨q, 1, none⟩ = some (.bool (false)) ∧ w'.cell? ⟨q, 2, none⟩ = some (.bool (false)) ∧ w'.cell? ⟨q, 3, none⟩ = some (.bool (false)) ∧ w'.cell? ⟨q, 4, none⟩ = some (.bool (true)))
                  (first | with_reducible assumption | with_reducible exact K9.out.drew.cells | with_reducible exact K9.out.cells | with_reducible exact K11.out.cells | with_reducible exact K12.out.cells)
                  (first
                    | (go_at_call 14; refine (ps.impl_ok _ _ _ _ _ _).mono ?_; rw [HG.out]; rintro e w11 ⟨rfl, b11⟩; have K11 := Lib.hid (K9.out.drew.keep b11); have B11 := Lib.hid (B9.out.drew.trans (b11.mono B9.out.drew.size)); obtain ⟨xk_0, xk_1, xk_2, xk_3, xk_4, yk_0, yk_1, yk_2, yk_3, yk_4, zk_0, zk_1, zk_2, zk_3, zk_4⟩ := K11.out.cells; clear b11)
                    | (go_at_call 15; refine (ps.impl_top _).mono ?_; rintro e w12 ⟨rfl, b12⟩; have K12 := Lib.hid (K11.out.keep b12); have B12 := Lib.hid (B11.out.trans (b12.mono B11.out.size)); obtain ⟨xl_0, xl_1, xl_2, xl_3, xl_4, yl_0, yl_1, yl_2, yl_3, yl_4, zl_0, zl_1, zl_2, zl_3, zl_4⟩ := K12.out.cells; clear b12))
                go_wp2
                go_ret
                exact ⟨rfl, B12.out⟩
            · clear htop
              go_wp2_with (first | (go_at_call 12; refine (ps.spec_ok _ _ _ _ _ _).mono ?_; rw [HP.out]; rintro e w8 ⟨rfl, b8⟩; have K8 := Lib.hid (K7.out.keep b8); have B8 := Lib.hid (B7.out.trans (b8.mono B7.out.size)); obtain ⟨xh_0, xh_1, xh_2, xh_3, xh_4, yh_0, yh_1, yh_2, yh_3, yh_4, zh_0, zh_1, zh_2, zh_3, zh_4⟩ := K8.out.cells; clear b8) | (go_at_call 13; refine (lv.spec_level _ _ _ _ _ _ _ _).mono ?_; rw [HV.out]; rintro e w9 ⟨rfl, b9⟩; have K9 := Lib.hid (K8.out.keep b9); have B9 := Lib.hid (B8.out.trans (b9.mono B8.out.size)); obtain ⟨xi_0, xi_1, xi_2, xi_3, xi_4, yi_0, yi_1, yi_2, yi_3, yi_4, zi_0, zi_1, zi_2, zi_3, zi_4⟩ := K9.out.cells; clear b9))
              go_region_held3 (fun w' => w'.cell? ⟨b, 0, none⟩ = some (.int .i64 t.k) ∧ w'.cell? ⟨b, 1, none⟩ = some (.int .i64 t.op) ∧ w'.cell? ⟨b, 2, none⟩ = some (.string t.s) ∧ w'.cell? ⟨b, 3, none⟩ = some (.string t.t) ∧ w'.cell? ⟨b, 4, none⟩ = some (.slice ak t.kids.length ck) ∧ w'.cell? ⟨b + 1, 0, none⟩ = some (.int .i64 (L)) ∧ w'.cell? ⟨b + 1, 1, none⟩ = some (.bool (d)) ∧ w'.cell? ⟨b + 1, 2, none⟩ = some (.bool (false)) ∧ w'.cell? ⟨b + 1, 3, none⟩ = some (.bool (true)) ∧ w'.cell? ⟨b + 1, 4, none⟩ = some (.bool (s)) ∧ w'.cell? ⟨q, 0, none⟩ = some (.int .i64 (1)) ∧ w'.cell? ⟨q, 1, none⟩ = some (.bool (false)) ∧ w'.cell? ⟨q, 2, none⟩ = some (.bool (false)) ∧ w'.cell? ⟨q, 3, none⟩ = some (.bool (true)) ∧ w'.cell? ⟨q, 4, none⟩ = some (.bool (qs)))
                (first | with_reducible assumption | with_reducible exact K9.out.drew.cells | with_reducible exact K9.out.cells | with_reducible exact K11.out.cells | with_reducible exact K12.out.cells)
                (first
                  | (go_at_call 14; refine (ps.impl_ok _ _ _ _ _ _).mono ?_; rw [HG.out]; rintro e w11 ⟨rfl, b11⟩; have K11 := Lib.hid (K9.out.drew.keep b11); have B11 := Lib.hid (B9.out.drew.trans (b11.mono B9.out.drew.size)); obtain ⟨xk_0, xk_1, xk_2, xk_3, xk_4, yk_0, yk_1, yk_2, yk_3, yk_4, zk_0, zk_1, zk_2, zk_3, zk_4⟩ := K11.out.cells; clear b11)
                  | (go_at_call 15; refine (ps.impl_top _).mono ?_; rintro e w12 ⟨rfl, b12⟩; have K12 := Lib.hid (K11.out.keep b12); have B12 := Lib.hid (B11.out.trans (b12.mono B11.out.size)); obtain ⟨xl_0, xl_1, xl_2, xl_3, xl_4, yl_0, yl_1, yl_2, yl_3, yl_4, zl_0, zl_1, zl_2, zl_3, zl_4⟩ := K12.out.cells; clear b12))
              go_wp2
              go_ret
              exact ⟨rfl, B12.out⟩
          · clear htop
            go_wp2_with (first | (go_at_call 12; refine (ps.spec_ok _ _ _ _ _ _).mono ?_; rw [HP.out]; rintro e w8 ⟨rfl, b8⟩; have K8 := Lib.hid (K7.out.keep b8); have B8 := Lib.hid (B7.out.trans (b8.mono B7.out.size)); obtain ⟨xh_0, xh_1, xh_2, xh_3, xh_4, yh_0, yh_1, yh_2, yh_3, yh_4, zh_0, zh_1, zh_2, zh_3, zh_4⟩ := K8.out.cells; clear b8) | (go_at_call 13; refine (lv.spec_level _ _ _ _ _ _ _ _).mono ?_; rw [HV.out]; rintro e w9 ⟨rfl, b9⟩; have K9 := Lib.hid (K8.out.keep b9); have B9 := Lib.hid (B8.out.trans (b9.mono B8.out.size)); obtain ⟨xi_0, xi_1, xi_2, xi_3, xi_4, yi_0, yi_1, yi_2, yi_3, yi_4, zi_0, zi_1, zi_2, zi_3, zi_4⟩ := K9.out.cells; clear b9))
            go_region_held3 (fun w' => w'.cell? ⟨b, 0, none⟩ = some (.int .i64 t.k) ∧ w'.cell? ⟨b, 1, none⟩ = some (.int .i64 t.op) ∧ w'.cell? ⟨b, 2, none⟩ = some (.string t.s) ∧ w'.cell? ⟨b, 3, none⟩ = some (.string t.t) ∧ w'.cell? ⟨b, 4, none⟩ = some (.slice ak t.kids.length ck) ∧ w'.cell? ⟨b + 1, 0, none⟩ = some (.int .i64 (L)) ∧ w'.cell? ⟨b + 1, 1, none⟩ = some (.bool (d)) ∧ w'.cell? ⟨b + 1, 2, none⟩ = some (.bool (true)) ∧ w'.cell? ⟨b + 1, 3, none⟩ = some (.bool (qg)) ∧ w'.cell? ⟨b + 1, 4, none⟩ = some (.bool (s)) ∧ w'.cell? ⟨q, 0, none⟩ = some (.int .i64 (1)) ∧ w'.cell? ⟨q, 1, none⟩ = some (.bool (false)) ∧ w'.cell? ⟨q, 2, none⟩ = some (.bool (true)) ∧ w'.cell? ⟨q, 3, none⟩ = some (.bool (qg)) ∧ w'.cell? ⟨q, 4, none⟩ = some (.bool (qs)))
              (first | with_reducible assumption | with_reducible exact K9.out.drew.cells | with_reducible exact K9.out.cells | with_reducible exact K11.out.cells | with_reducible exact K12.out.cells)
              (first
                | (go_at_call 14; refine (ps.impl_ok _ _ _ _ _ _).mono ?_; rw [HG.out]; rintro e w11 ⟨rfl, b11⟩; have K11 := Lib.hid (K9.out.drew.keep b11); have B11 := Lib.hid (B9.out.drew.trans (b11.mono B9.out.drew.size)); obtain ⟨xk_0, xk_1, xk_2, xk_3, xk_4, yk_0, yk_1, yk_2, yk_3, yk_4, zk_0, zk_1, zk_2, zk_3, zk_4⟩ := K11.out.cells; clear b11)
                | (go_at_call 15; refine (ps.impl_top _).mono ?_; rintro e w12 ⟨rfl, b12⟩; have K12 := Lib.hid (K11.out.keep b12); have B12 := Lib.hid (B11.out.trans (b12.mono B11.out.size)); obtain ⟨xl_0, xl_1, xl_2, xl_3, xl_4, yl_0, yl_1, yl_2, yl_3, yl_4, zl_0, zl_1, zl_2, zl_3, zl_4⟩ := K12.out.cells; clear b12))
            go_wp2
            go_ret
            exact ⟨rfl, B12.out⟩
        · exact absurd hG (by decide)
      · have h2 : (ql == 1) = false := by simp [h1]
        clear h1 hG htop
        go_wp2_with (first | (go_at_call 12; refine (ps.spec_ok _ _ _ _ _ _).mono ?_; rw [HP.out]; rintro e w8 ⟨rfl, b8⟩; have K8 := Lib.hid (K7.out.keep b8); have B8 := Lib.hid (B7.out.trans (b8.mono B7.out.size)); obtain ⟨xh_0, xh_1, xh_2, xh_3, xh_4, yh_0, yh_1, yh_2, yh_3, yh_4, zh_0, zh_1, zh_2, zh_3, zh_4⟩ := K8.out.cells; clear b8) | (go_at_call 13; refine (lv.spec_level _ _ _ _ _ _ _ _).mono ?_; rw [HV.out]; rintro e w9 ⟨rfl, b9⟩; have K9 := Lib.hid (K8.out.keep b9); have B9 := Lib.hid (B8.out.trans (b9.mono B8.out.size)); obtain ⟨xi_0, xi_1, xi_2, xi_3, xi_4, yi_0, yi_1, yi_2, yi_3, yi_4, zi_0, zi_1, zi_2, zi_3, zi_4⟩ := K9.out.cells; clear b9))
        go_region_held3 (fun w' => w'.cell? ⟨b, 0, none⟩ = some (.int .i64 t.k) ∧ w'.cell? ⟨b, 1, none⟩ = some (.int .i64 t.op) ∧ w'.cell? ⟨b, 2, none⟩ = some (.string t.s) ∧ w'.cell? ⟨b, 3, none⟩ = some (.string t.t) ∧ w'.cell? ⟨b, 4, none⟩ = some (.slice ak t.kids.length ck) ∧ w'.cell? ⟨b + 1, 0, none⟩ = some (.int .i64 (L)) ∧ w'.cell? ⟨b + 1, 1, none⟩ = some (.bool (d)) ∧ w'.cell? ⟨b + 1, 2, none⟩ = some (.bool (qi)) ∧ w'.cell? ⟨b + 1, 3, none⟩ = some (.bool (qg)) ∧ w'.cell? ⟨b + 1, 4, none⟩ = some (.bool (s)) ∧ w'.cell? ⟨q, 0, none⟩ = some (.int .i64 (ql)) ∧ w'.cell? ⟨q, 1, none⟩ = some (.bool (qd)) ∧ w'.cell? ⟨q, 2, none⟩ = some (.bool (qi)) ∧ w'.cell? ⟨q, 3, none⟩ = some (.bool (qg)) ∧ w'.cell? ⟨q, 4, none⟩ = some (.bool (qs)))
          (first | with_reducible assumption | with_reducible exact K9.out.drew.cells | with_reducible exact K9.out.cells | with_reducible exact K11.out.cells | with_reducible exact K12.out.cells)
          (first
            | (go_at_call 14; refine (ps.impl_ok _ _ _ _ _ _).mono ?_; rw [HG.out]; rintro e w11 ⟨rfl, b11⟩; have K11 := Lib.hid (K9.out.drew.keep b11); have B11 := Lib.hid (B9.out.drew.trans (b11.mono B9.out.drew.size)); obtain ⟨xk_0, xk_1, xk_2, xk_3, xk_4, yk_0, yk_1, yk_2, yk_3, yk_4, zk_0, zk_1, zk_2, zk_3, zk_4⟩ := K11.out.cells; clear b11)
            | (go_at_call 15; refine (ps.impl_top _).mono ?_; rintro e w12 ⟨rfl, b12⟩; have K12 := Lib.hid (K11.out.keep b12); have B12 := Lib.hid (B11.out.trans (b12.mono B11.out.size)); obtain ⟨xl_0, xl_1, xl_2, xl_3, xl_4, yl_0, yl_1, yl_2, yl_3, yl_4, zl_0, zl_1, zl_2, zl_3, zl_4⟩ := K12.out.cells; clear b12))
        go_wp2
        go_ret
        exact ⟨rfl, B12.out⟩
  · have hz : kidS t.k t.op t.kids.length K L d i g s = zero := by unfold kidS; rw [if_neg hv]
    rw [HQ.out] at hz
    injection hz with t1 t2 t3 t4 t5
    subst t1 t2 t3 t4 t5
    cases P
    · clear hv hP hV
      go_wp2_with (first | (go_at_call 12; refine (ps.spec_ok _ _ _ _ _ _).mono ?_; rw [HP.out]; rintro e w8 ⟨rfl, b8⟩; have K8 := Lib.hid (K7.out.keep b8); have B8 := Lib.hid (B7.out.trans (b8.mono B7.out.size)); obtain ⟨xh_0, xh_1, xh_2, xh_3, xh_4, yh_0, yh_1, yh_2, yh_3, yh_4, zh_0, zh_1, zh_2, zh_3, zh_4⟩ := K8.out.cells; clear b8) | (go_at_call 13; refine (lv.spec_level _ _ _ _ _ _ _ _).mono ?_; rw [HV.out]; rintro e w9 ⟨rfl, b9⟩; have K9 := Lib.hid (K8.out.keep b9); have B9 := Lib.hid (B8.out.trans (b9.mono B8.out.size)); obtain ⟨xi_0, xi_1, xi_2, xi_3, xi_4, yi_0, yi_1, yi_2, yi_3, yi_4, zi_0, zi_1, zi_2, zi_3, zi_4⟩ := K9.out.cells; clear b9))
      go_ret
      exact ⟨rfl, B8.out⟩
    by_cases h2 : (t.kids.length : Int) ≤ (K : Int)
    · have k1 : t.kids.length ≤ K := by omega
      have k2 : ¬ K < t.kids.length := by omega
      clear hv hP hV h2
      go_wp2_with (first | (go_at_call 12; refine (ps.spec_ok _ _ _ _ _ _).mono ?_; rw [HP.out]; rintro e w8 ⟨rfl, b8⟩; have K8 := Lib.hid (K7.out.keep b8); have B8 := Lib.hid (B7.out.trans (b8.mono B7.out.size)); obtain ⟨xh_0, xh_1, xh_2, xh_3, xh_4, yh_0, yh_1, yh_2, yh_3, yh_4, zh_0, zh_1, zh_2, zh_3, zh_4⟩ := K8.out.cells; clear b8) | (go_at_call 13; refine (lv.spec_level _ _ _ _ _ _ _ _).mono ?_; rw [HV.out]; rintro e w9 ⟨rfl, b9⟩; have K9 := Lib.hid (K8.out.keep b9); have B9 := Lib.hid (B8.out.trans (b9.mono B8.out.size)); obtain ⟨xi_0, xi_1, xi_2, xi_3, xi_4, yi_0, yi_1, yi_2, yi_3, yi_4, zi_0, zi_1, zi_2, zi_3, zi_4⟩ := K9.out.cells; clear b9))
      go_ret
      exact ⟨rfl, B8.out⟩
    have h0 : V = 0 := by
      by_cases h : V = 0
      · exact h
      · exact absurd ⟨hP, by omega, by omega, by rw [hV]; exact h⟩ hv
    have k1 : K < t.kids.length := by omega
    have k2 : ¬ t.kids.length ≤ K := by omega
    subst h0
    clear hv hP hV h2
    go_wp2_with (first | (go_at_call 12; refine (ps.spec_ok _ _ _ _ _ _).mono ?_; rw [HP.out]; rintro e w8 ⟨rfl, b8⟩; have K8 := Lib.hid (K7.out.keep b8); have B8 := Lib.hid (B7.out.trans (b8.mono B7.out.size)); obtain ⟨xh_0, xh_1, xh_2, xh_3, xh_4, yh_0, yh_1, yh_2, yh_3, yh_4, zh_0, zh_1, zh_2, zh_3, zh_4⟩ := K8.out.cells; clear b8) | (go_at_call 13; refine (lv.spec_level _ _ _ _ _ _ _ _).mono ?_; rw [HV.out]; rintro e w9 ⟨rfl, b9⟩; have K9 := Lib.hid (K8.out.keep b9); have B9 := Lib.hid (B8.out.trans (b9.mono B8.out.size)); obtain ⟨xi_0, xi_1, xi_2, xi_3, xi_4, yi_0, yi_1, yi_2, yi_3, yi_4, zi_0, zi_1, zi_2, zi_3, zi_4⟩ := K9.out.cells; clear b9))
    go_ret
    exact ⟨rfl, B9.out⟩

/-- THE WALK: the law's own text. -/
theorem walk (a : Option Addr) (len cap : Nat) (zs : List Int) (w : World) (hz : draw.IsRow .u8 w a len cap zs) :
    Calls Try.prog 3 #[.slice a len cap] w fun e w' => e = .returned (.bool true) ∧ Below w.heap.size w w' := by
  have hlm : len ≤ maxLen := by
    rcases hz with ⟨_, rfl, _, _⟩ | ⟨x, _, hl, hm, _⟩
    · exact Nat.zero_le _
    · exact Nat.le_trans hl hm
  unfold maxLen at hlm
  by_cases hl : len ≤ 1048576
  · exact core (draw.code_of hz) hl
  · have hbig : decide (1048576 < len) = true := by simp; omega
    clear hz
    go_enter Try.func3, Try.ntmps3
    go_wp2_with fail
    refine (draw.big_any a len cap _ (by omega)).mono ?_
    rintro e w' ⟨he, rfl⟩
    rw [hbig] at he
    subst he
    go_wp2
    go_ret
    exact ⟨rfl, Below.refl _ _⟩
end Go.Proofs.Ytldkhdoboieibaa.lawKidPos
namespace Go.Proofs.Ytldkhdoboieibaa.lawKidPos
open Go.ChangeShapes Go.WideShapes Go.ChangeAt Go.RowKit
open Go.ChangeMaps (open_string shut_string)
abbrev IsRow := draw.IsRow
theorem laidOut : laidOutB Try.prog = true := by kernel_rfl
theorem own : ownKnob Try.prog.godebug = none := by kernel_rfl

set_option maxRecDepth 100000 in
theorem lifted (os : Os) (started : os.Started) (H : Type) (enc : TypeId × Value → H) :
    ReturnsInHanded {} Try.checked os 3 .any (Rows.fnKidPosSpec.pre6 enc Try.prog Try.f3 Rows.fnKidPosRow.domain false) (Rows.fnKidPosSpec.post enc Try.prog Try.f3 false true false false) := by
  refine returnsInHanded_of_change (C := Try.checked) own started (by kernel_rfl) Try.func3
    (ChangeSpec.witness6 (enc := enc) (C := Try.checked) false ⟨#[], #[.slice none 0 0], []⟩ 8 (by kernel_rfl) (by kernel_rfl) (by kernel_rfl) (by kernel_rfl)) ?_
  intro W base args ds gs before hval0 hW hcnd _
  have hval : ∀ (j : Nat) t v, Try.f3.params[j]? = some t → args[j]? = some v → Value.okWide Try.prog W .any base t v := hval0
  have hW' := hW
  obtain ⟨p, q, hA0, hV, rfl, hfz, hnd⟩ := hW
  have hA : DataW.TrodAll enc Try.prog W 0 (fun _ => true) true Try.f3.params.toList args.toList ds p := hA0
  rw [Try.params3] at hA hval
  obtain ⟨v0, vs0, d0, ds0, p0, q0, hargs, rfl, rfl, h0, r0⟩ := trodAll_cons hA
  obtain ⟨rfl, rfl, rfl⟩ := trodAll_nil r0
  obtain rfl : args = #[v0] := by cases args; simp_all
  obtain ⟨rfl, rfl⟩ := trodVars_none hV
  obtain ⟨a0, len0, cap0, rfl⟩ := okWide_slice Try.underlying22 (hval 0 22 v0 rfl rfl)
  have k0 := h0
  have lt0 : ∀ x ∈ p0, x.block < W.heap.size := by obtain ⟨m, hm⟩ := k0; exact DataW.trod_lt m _ _ _ hm
  obtain ⟨z0, w0⟩ : ∃ zs, IsRow .u8 W a0 len0 cap0 zs := by
    obtain ⟨fuel, hf⟩ := h0
    rcases open_ints Try.underlying22 Try.underlying5 (by kernel_rfl) hf with ⟨hcs, _⟩ | ⟨x, l, c, zs, hcs, _, hl, hm, hz, _, hcell, hwz⟩
    · simp [Value.cells] at hcs
      obtain ⟨rfl, rfl, rfl⟩ := hcs
      exact ⟨[], .inl ⟨rfl, rfl, rfl, rfl⟩⟩
    · simp [Value.cells] at hcs
      obtain ⟨rfl, rfl, rfl⟩ := hcs
      exact ⟨zs, .inr ⟨_, rfl, hl, hm, by simpa using hz, hcell, hwz⟩⟩
  clear hA0 hval0
  refine (walk a0 len0 cap0 z0 W w0).mono fun e W' ⟨he, bel⟩ => ?_
  subst he
  exact ⟨_, rfl, _, _, _, [], _, [], hW', trodAll_mk1 (shut_bool Try.underlying4 _), (trodAll_cons_mk (Below.trod laidOut (by kernel_rfl) (of_decide_eq_true (by kernel_rfl)) k0 bel lt0) trodAll_mk0), rfl, bel.frame _, fun h => by cases h⟩

theorem over : Rows.fnKidPosRow.holds Try.pinned (OpenSpec.ofChange Rows.fnKidPosSpec) :=
  OpenClaim.holds_of_wide 3 Try.f3 rfl rfl rfl rfl rfl rfl rfl ⟨rfl, rfl, rfl, rfl, rfl⟩ rfl rfl rfl rfl rfl (by kernel_rfl) Try.func3 (by kernel_rfl)
    (of_decide_eq_true (by kernel_rfl)) (by unfold Func.isWrapper; first | (rw [if_pos (by decide +kernel)]; kernel_rfl) | (rw [if_neg (by decide +kernel)]; exact ⟨rfl, rfl⟩))
    (fun os started H enc _ => lifted os started H enc)
end Go.Proofs.Ytldkhdoboieibaa.lawKidPos
namespace Go.Proofs.Ytldkhdoboieibaa
/-- The statement. -/
theorem fnKidPos_holds : Rows.FnKidPosSaid := lawKidPos.over
end Go.Proofs.Ytldkhdoboieibaa
