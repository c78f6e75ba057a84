/-
  spec.l7Expr by the plain drawing functions: one theorem an arm, then the induction over the depth.
  spec.l7Maybe and spec.l7Simple by the plain drawing functions.
  spec.l7Block and spec.l7Stmt by the plain drawing functions.
  spec.l7Item by the plain drawing functions.
  The texts in drawn trees are short. No program's text is walked here.
  spec.l7Item as a whole; spec.l7Program and spec.l7Some, which draw again until the tree is small enough; spec.l7Any: some small tree.
  spec.l7Program, which draws again until the program is small enough; spec.l7Any: some small tree.
  spec.l6Bent: a small tree; cut short, with a kid more, with another first kid, or twice: some nodes. spec.l6Where, spec.DrawPart.
  spec.l7Spoilt: a tree, with one cell of one node another, or bent: some nodes. spec.DrawTreeOk.
  spec.l9Pos, spec.l9Node: some position, some node of a drawn tree.
-/
import Derived.Test.YtiilpnoaocfjgaaGreatDoorGBareA
import Derived.Test.YtiilpnoaocfjgaaGreatDoorDepth
import Derived.Deep.RegionLaw
import Derived.Test.YtiilpnoaocfjgaaGreatDoorKidParts
namespace Go.Proofs.YtiilpnoaocfjgaaGreatDoor.draw
open Go.ChangeShapes Go.WideShapes Go.ChangeAt Go.RowKit
open nd
set_option linter.unusedVariables false

theorem grown_refl {w : World} {r : Option Nat} : w.grownBy w r := ⟨rfl, rfl, rfl, Nat.le_refl _, fun _ _ _ => rfl⟩
theorem TOut.back {B p len cap : Nat} {a : Option Addr} {zs : List Int} {q : List Nd} {s' : St} {w w2 w3 : World} {e : Ending} (hG : w.grownBy w2 (some p)) (hp : p < w.heap.size) (h : TOut B p a len cap zs q s' w2 e w3) : TOut B p a len cap zs q s' w e w3 := by
  obtain ⟨v, e, t, i, g⟩ := h
  exact ⟨v, e, t.down hG.size hp, i, grown_trans hG g⟩
theorem word_ok {B p len cap : Nat} {w : World} {a : Option Addr} {zs : List Int} {s : St} (H : In B w p a len cap zs s) :
    Calls Tryz.prog 178 #[.pointer (some ⟨p, 0, none⟩)] w (fun e w' => Out B p a len cap zs (.string (pkG (exactG zs) l2WordL s).1) (pkG (exactG zs) l2WordL s).2 w e w' ∧ w.heap.size < w'.heap.size) := x_l2Word H
theorem pick_ok {B p len cap : Nat} {w : World} {a : Option Addr} {zs : List Int} {s : St} (n : Nat) (L : List ByteArray) (H : In B w p a len cap zs s) (hL : L.length = n) (hn : 0 < n) (hn2 : n ≤ 1000) :
    Calls Tryz.prog 179 #[.pointer (some ⟨p, 0, none⟩), .slice (some ⟨w.heap.size, 0, none⟩) n n] (w.alloc (.cells (strCells L) 9)) (fun e w' => Out B p a len cap zs (.string (pkG (exactG zs) L s).1) (pkG (exactG zs) L s).2 w e w' ∧ w.heap.size < w'.heap.size) := by
  have e : pkG (exactG zs) L s = (pickS L zs s, (belowF zs n s).2) := by
    unfold pkG pickS
    rw [hL]
    rfl
  rw [e]
  exact pick_lit n L H hL hn hn2
theorem times_all {σ T : Type} {E : σ → T × σ} {P : T → Prop} (h : ∀ s, P (E s).1) : ∀ n s, ∀ q ∈ (timesG E n s).1, P q := by
  intro n
  induction n with
  | zero => intro s q hq; cases hq
  | succ n ih =>
    intro s q hq
    rcases List.mem_cons.1 hq with e | e
    · rw [e]; exact h s
    · exact ih _ q e
theorem list_len (zs : List Int) (E : St → List Nd × St) (least most : Nat) (hl : least ≤ most) (s : St) : (listG (exactG zs) E least most s).1.length ≤ most := by
  have hb := exact_lt zs (most - least + 1) s (by omega)
  unfold listG
  rw [times_len]
  omega
/-- An arm of the switch. -/
def armG {σ T : Type} (g : Gen σ T) (E1 E2 E3 : σ → T × σ) (i b : Nat) (t : σ) : T × σ :=
  match b with
  | 0 => leafG g t
  | 1 => lvalG g E1 E2 t
  | 2 => (g.nd (nodeO 6 0) [(E1 t).1], (E1 t).2)
  | 3 => let x := pkG g l2WordL t; let l := listG g E1 0 3 x.2; (g.nd (nodeS 7 x.1) l.1, l.2)
  | 4 => let x := pkG g l7FnL t; let l := listG g E2 0 3 x.2; (g.nd (nodeS 8 x.1) l.1, l.2)
  | 5 => let v := lvalG g E2 E3 t; (g.nd (nodeO 9 (51 + (i : Int))) [v.1], v.2)
  | 6 => let v := lvalG g E2 E3 t; (g.nd (nodeO 10 (51 + (i : Int))) [v.1], v.2)
  | 7 => let o := piG g [56, 55, 61] t; let e := E1 o.2; (g.nd (nodeO 11 o.1) [e.1], e.2)
  | 8 => let o := piG g [56, 55, 61] t; let e := E1 o.2; (g.nd (nodeO 11 o.1) [e.1], e.2)
  | 9 => let x := pkG g l2WordL t; let l := listG g E1 1 2 x.2; (g.nd (nodeS 13 x.1) l.1, l.2)
  | 10 => let e := E1 t; let e2 := E1 e.2; let e3 := E1 e2.2; (g.nd (nodeO 14 0) [e.1, e2.1, e3.1], e3.2)
  | 11 => let o := piG g [54, 38, 43] t; let v := lvalG g E2 E3 o.2; let e := E1 v.2; (g.nd (nodeO 15 o.1) [v.1, e.1], e.2)
  | _ => let o := piG g l7BinL t; let e := E1 o.2; let e2 := E1 e.2; (g.nd (nodeO 12 o.1) [e.1, e2.1], e2.2)
theorem step_arm {σ T : Type} (g : Gen σ T) (E1 E2 E3 : σ → T × σ) (s : σ) : stepG g E1 E2 E3 s = armG g E1 E2 E3 (g.bl 2 s).1 (g.bl 16 (g.bl 2 s).2).1 (g.bl 16 (g.bl 2 s).2).2 := rfl
/-- What an arm may use. -/
structure Arm (B p len cap : Nat) (a : Option Addr) (zs : List Int) (D : Int) (E1 E2 E3 : St → List Nd × St) (k : Nat) : Prop where
  d0 : 1 ≤ D
  d1 : D ≤ 100
  h1 : ExprC B p len cap a zs 146 (D - 1) E1
  h2 : ExprC B p len cap a zs 146 (D - 2) E2
  h3 : ExprC B p len cap a zs 146 (D - 3) E3
  s1 : SmE k E1
  s2 : SmE k E2
  s3 : SmE k E3
  hk : k ≤ 5000
section
variable {B p len cap : Nat} {a : Option Addr} {zs : List Int} {D : Int} {E1 E2 E3 : St → List Nd × St} {k : Nat}
theorem Arm.g1 (h : Arm B p len cap a zs D E1 E2 E3 k) (s : St) : Good (E1 s).1 := (h.s1 s).good (by have := h.hk; omega)
theorem Arm.g2 (h : Arm B p len cap a zs D E1 E2 E3 k) (s : St) : Good (E2 s).1 := (h.s2 s).good (by have := h.hk; omega)
theorem Arm.g3 (h : Arm B p len cap a zs D E1 E2 E3 k) (s : St) : Good (E3 s).1 := (h.s3 s).good (by have := h.hk; omega)
theorem Arm.gl (h : Arm B p len cap a zs D E1 E2 E3 k) (s : St) : Good (lvalG (exactG zs) E2 E3 s).1 := (lval_small zs h.s2 h.s3 s).good (by have := h.hk; omega)
theorem Arm.lv (h : Arm B p len cap a zs D E1 E2 E3 k) {w : World} {s : St} (H : In B w p a len cap zs s) : Calls Tryz.prog 231 #[.pointer (some ⟨p, 0, none⟩), .int .i64 (D - 1)] w (TOut B p a len cap zs (lvalG (exactG zs) E2 E3 s).1 (lvalG (exactG zs) E2 E3 s).2 w) := by
  have d0 := h.d0
  have d1 := h.d1
  exact lval_ok (D - 1) E2 E3 (by omega) (by rw [show D - 1 - 1 = D - 2 by omega]; exact h.h2) (by rw [show D - 1 - 2 = D - 3 by omega]; exact h.h3) h.g2 h.g3 H
theorem Arm.lv0 (h : Arm B p len cap a zs D E1 E2 E3 k) {w : World} {s : St} (H : In B w p a len cap zs s) : Calls Tryz.prog 231 #[.pointer (some ⟨p, 0, none⟩), .int .i64 D] w (TOut B p a len cap zs (lvalG (exactG zs) E1 E2 s).1 (lvalG (exactG zs) E1 E2 s).2 w) := by
  have d0 := h.d0
  have d1 := h.d1
  exact lval_ok D E1 E2 (by omega) h.h1 h.h2 h.g1 h.g2 H
set_option maxHeartbeats 1600000 in
theorem arm0 {w : World} {s u t : St} {K2 : Nat} (hA : Arm B p len cap a zs D E1 E2 E3 k) (H : In B w p a len cap zs s) (hK2 : (belowF zs 2 s).1 = (K2 : Int)) (hk2 : K2 < 2) (hu : (belowF zs 2 s).2 = u) (hK : (belowF zs 16 u).1 = ((0 : Nat) : Int)) (ht : (belowF zs 16 u).2 = t) :
    Calls Tryz.prog 146 #[.pointer (some ⟨p, 0, none⟩), .int .i64 D] w (TOut B p a len cap zs (armG (exactG zs) E1 E2 E3 K2 0 t).1 (armG (exactG zs) E1 E2 E3 K2 0 t).2 w) := by
  have HA := Lib.hid hA
  have HI := Lib.hid H
  have HK2 := Lib.hid hK2
  have HU := Lib.hid hu
  have HK := Lib.hid hK
  have HT := Lib.hid ht
  have d0 := hA.d0
  have d1 := hA.d1
  clear hA H hK2 hu hK ht
  go_enter Tryz.func146, Tryz.ntmps146
  go_wp2_with fail
  refine (below_any 2 HI.out).mono ?_
  rintro e w1 ⟨he, I1, G1⟩
  rw [HK2.out] at he
  subst he
  rw [HU.out] at I1
  go_wp2_with fail
  refine (below_any 16 I1).mono ?_
  rintro e w2 ⟨he, I2, G2⟩
  rw [HK.out] at he
  subst he
  rw [HT.out] at I2
  have G := Lib.hid (grown_trans G1 G2)
  have hZ := G.out.size
  clear I1 G1 G2
  go_wp2_with fail
  refine (leaf_ok I2).mono ?_
  rintro e w3 ho
  have HM := Lib.hid (TOut.back G.out HI.out.lt ho)
  clear ho
  obtain ⟨vz, rfl, _⟩ := HM.out
  go_wp2
  go_ret
  exact HM.out
set_option maxHeartbeats 1600000 in
theorem arm1 {w : World} {s u t : St} {K2 : Nat} (hA : Arm B p len cap a zs D E1 E2 E3 k) (H : In B w p a len cap zs s) (hK2 : (belowF zs 2 s).1 = (K2 : Int)) (hk2 : K2 < 2) (hu : (belowF zs 2 s).2 = u) (hK : (belowF zs 16 u).1 = ((1 : Nat) : Int)) (ht : (belowF zs 16 u).2 = t) :
    Calls Tryz.prog 146 #[.pointer (some ⟨p, 0, none⟩), .int .i64 D] w (TOut B p a len cap zs (armG (exactG zs) E1 E2 E3 K2 1 t).1 (armG (exactG zs) E1 E2 E3 K2 1 t).2 w) := by
  have HA := Lib.hid hA
  have HI := Lib.hid H
  have HK2 := Lib.hid hK2
  have HU := Lib.hid hu
  have HK := Lib.hid hK
  have HT := Lib.hid ht
  have d0 := hA.d0
  have d1 := hA.d1
  clear hA H hK2 hu hK ht
  go_enter Tryz.func146, Tryz.ntmps146
  go_wp2_with fail
  refine (below_any 2 HI.out).mono ?_
  rintro e w1 ⟨he, I1, G1⟩
  rw [HK2.out] at he
  subst he
  rw [HU.out] at I1
  go_wp2_with fail
  refine (below_any 16 I1).mono ?_
  rintro e w2 ⟨he, I2, G2⟩
  rw [HK.out] at he
  subst he
  rw [HT.out] at I2
  have G := Lib.hid (grown_trans G1 G2)
  have hZ := G.out.size
  clear I1 G1 G2
  go_wp2_with fail
  refine (HA.out.lv0 I2).mono ?_
  rintro e w3 ho
  have HM := Lib.hid (TOut.back G.out HI.out.lt ho)
  clear ho
  obtain ⟨vz, rfl, _⟩ := HM.out
  go_wp2
  go_ret
  exact HM.out
set_option maxHeartbeats 1600000 in
theorem arm2 {w : World} {s u t : St} {K2 : Nat} (hA : Arm B p len cap a zs D E1 E2 E3 k) (H : In B w p a len cap zs s) (hK2 : (belowF zs 2 s).1 = (K2 : Int)) (hk2 : K2 < 2) (hu : (belowF zs 2 s).2 = u) (hK : (belowF zs 16 u).1 = ((2 : Nat) : Int)) (ht : (belowF zs 16 u).2 = t) :
    Calls Tryz.prog 146 #[.pointer (some ⟨p, 0, none⟩), .int .i64 D] w (TOut B p a len cap zs (armG (exactG zs) E1 E2 E3 K2 2 t).1 (armG (exactG zs) E1 E2 E3 K2 2 t).2 w) := by
  have HA := Lib.hid hA
  have HI := Lib.hid H
  have HK2 := Lib.hid hK2
  have HU := Lib.hid hu
  have HK := Lib.hid hK
  have HT := Lib.hid ht
  have d0 := hA.d0
  have d1 := hA.d1
  clear hA H hK2 hu hK ht
  go_enter Tryz.func146, Tryz.ntmps146
  go_wp2_with fail
  refine (below_any 2 HI.out).mono ?_
  rintro e w1 ⟨he, I1, G1⟩
  rw [HK2.out] at he
  subst he
  rw [HU.out] at I1
  go_wp2_with fail
  refine (below_any 16 I1).mono ?_
  rintro e w2 ⟨he, I2, G2⟩
  rw [HK.out] at he
  subst he
  rw [HT.out] at I2
  have G := Lib.hid (grown_trans G1 G2)
  have hZ := G.out.size
  clear I1 G1 G2
  go_wp2_with fail
  refine (HA.out.h1 _ _ I2).mono ?_
  rintro e w3 ⟨v3, rfl, T3, I3, G3⟩
  obtain ⟨a3, c3, rfl⟩ := T3.form
  have GG3 := Lib.hid (grown_trans G.out G3)
  have hZ3 := GG3.out.size
  clear G3
  have X3 := Lib.hid (TR.down T3 (S' := w.heap.size) (by omega) HI.out.lt)
  clear T3
  go_wp2_with fail
  refine (good_parts (n := nodeO 6 0) (parts_of [.slice a3 _ c3] [(E1 t).1] rfl (fun i h _ => by have e0 : i = 0 := (by simpa using h); subst e0; exact X3.out)) (fun q hq => by
      simp only [List.mem_cons, List.not_mem_nil, or_false] at hq
      rcases hq with rfl
      · exact HA.out.g1 _
      ) (by simp)).mono ?_
  rintro e w4 hmk
  have HM := Lib.hid (TOut.make I3 HI.out.lt GG3.out ((Below.refl _ _).alloc (Nat.le_refl _) _) hmk)
  clear hmk
  obtain ⟨vz, rfl, _⟩ := HM.out
  go_wp2
  go_ret
  exact HM.out
set_option maxHeartbeats 1600000 in
theorem arm3 {w : World} {s u t : St} {K2 : Nat} (hA : Arm B p len cap a zs D E1 E2 E3 k) (H : In B w p a len cap zs s) (hK2 : (belowF zs 2 s).1 = (K2 : Int)) (hk2 : K2 < 2) (hu : (belowF zs 2 s).2 = u) (hK : (belowF zs 16 u).1 = ((3 : Nat) : Int)) (ht : (belowF zs 16 u).2 = t) :
    Calls Tryz.prog 146 #[.pointer (some ⟨p, 0, none⟩), .int .i64 D] w (TOut B p a len cap zs (armG (exactG zs) E1 E2 E3 K2 3 t).1 (armG (exactG zs) E1 E2 E3 K2 3 t).2 w) := by
  have HA := Lib.hid hA
  have HI := Lib.hid H
  have HK2 := Lib.hid hK2
  have HU := Lib.hid hu
  have HK := Lib.hid hK
  have HT := Lib.hid ht
  have d0 := hA.d0
  have d1 := hA.d1
  clear hA H hK2 hu hK ht
  go_enter Tryz.func146, Tryz.ntmps146
  go_wp2_with fail
  refine (below_any 2 HI.out).mono ?_
  rintro e w1 ⟨he, I1, G1⟩
  rw [HK2.out] at he
  subst he
  rw [HU.out] at I1
  go_wp2_with fail
  refine (below_any 16 I1).mono ?_
  rintro e w2 ⟨he, I2, G2⟩
  rw [HK.out] at he
  subst he
  rw [HT.out] at I2
  have G := Lib.hid (grown_trans G1 G2)
  have hZ := G.out.size
  clear I1 G1 G2
  go_wp2_with fail
  refine (word_ok I2).mono ?_
  rintro e w3 ⟨⟨rfl, I3, G3⟩, Z3⟩
  have GG3 := Lib.hid (grown_trans G.out G3)
  have hZ3 := GG3.out.size
  clear G3
  go_wp2_with fail
  refine (list_ok 0 3 _ E1 (by decide) (by decide) HA.out.h1 I3).mono ?_
  rintro e w4 ⟨g4, c4, vs4, rfl, L4, GL4⟩
  have HL4 := Lib.hid L4
  have HGL4 := Lib.hid (grown_trans GG3.out GL4)
  have HZ4 := HGL4.out.size
  clear L4 GL4
  go_wp2_with fail
  refine (good_parts (n := nodeS 7 (pkG (exactG zs) l2WordL t).1) HL4.out.parts (times_all HA.out.g1 _ _) (Nat.le_trans (list_len zs _ _ _ (by decide) _) (by decide))).mono ?_
  rintro e w5 hmk
  have HM := Lib.hid (TOut.make HL4.out.cur HI.out.lt HGL4.out (Below.refl _ _) hmk)
  clear hmk
  obtain ⟨vz, rfl, _⟩ := HM.out
  go_wp2
  go_ret
  exact HM.out
set_option maxHeartbeats 1600000 in
theorem arm4 {w : World} {s u t : St} {K2 : Nat} (hA : Arm B p len cap a zs D E1 E2 E3 k) (H : In B w p a len cap zs s) (hK2 : (belowF zs 2 s).1 = (K2 : Int)) (hk2 : K2 < 2) (hu : (belowF zs 2 s).2 = u) (hK : (belowF zs 16 u).1 = ((4 : Nat) : Int)) (ht : (belowF zs 16 u).2 = t) :
    Calls Tryz.prog 146 #[.pointer (some ⟨p, 0, none⟩), .int .i64 D] w (TOut B p a len cap zs (armG (exactG zs) E1 E2 E3 K2 4 t).1 (armG (exactG zs) E1 E2 E3 K2 4 t).2 w) := by
  have HA := Lib.hid hA
  have HI := Lib.hid H
  have HK2 := Lib.hid hK2
  have HU := Lib.hid hu
  have HK := Lib.hid hK
  have HT := Lib.hid ht
  have d0 := hA.d0
  have d1 := hA.d1
  clear hA H hK2 hu hK ht
  go_enter Tryz.func146, Tryz.ntmps146
  go_wp2_with fail
  refine (below_any 2 HI.out).mono ?_
  rintro e w1 ⟨he, I1, G1⟩
  rw [HK2.out] at he
  subst he
  rw [HU.out] at I1
  go_wp2_with fail
  refine (below_any 16 I1).mono ?_
  rintro e w2 ⟨he, I2, G2⟩
  rw [HK.out] at he
  subst he
  rw [HT.out] at I2
  have G := Lib.hid (grown_trans G1 G2)
  have hZ := G.out.size
  clear I1 G1 G2
  go_wp2_with fail
  refine (pick_ok 5 l7FnL I2 rfl (by decide) (by decide)).mono ?_
  rintro e w3 ⟨⟨rfl, I3, G3⟩, Z3⟩
  have GG3 := Lib.hid (grown_trans G.out G3)
  have hZ3 := GG3.out.size
  clear G3
  go_wp2_with fail
  refine (list_ok 0 3 _ E2 (by decide) (by decide) HA.out.h2 I3).mono ?_
  rintro e w4 ⟨g4, c4, vs4, rfl, L4, GL4⟩
  have HL4 := Lib.hid L4
  have HGL4 := Lib.hid (grown_trans GG3.out GL4)
  have HZ4 := HGL4.out.size
  clear L4 GL4
  go_wp2_with fail
  refine (good_parts (n := nodeS 8 (pkG (exactG zs) l7FnL t).1) HL4.out.parts (times_all HA.out.g2 _ _) (Nat.le_trans (list_len zs _ _ _ (by decide) _) (by decide))).mono ?_
  rintro e w5 hmk
  have HM := Lib.hid (TOut.make HL4.out.cur HI.out.lt HGL4.out (Below.refl _ _) hmk)
  clear hmk
  obtain ⟨vz, rfl, _⟩ := HM.out
  go_wp2
  go_ret
  exact HM.out
set_option maxHeartbeats 1600000 in
theorem arm5 {w : World} {s u t : St} {K2 : Nat} (hA : Arm B p len cap a zs D E1 E2 E3 k) (H : In B w p a len cap zs s) (hK2 : (belowF zs 2 s).1 = (K2 : Int)) (hk2 : K2 < 2) (hu : (belowF zs 2 s).2 = u) (hK : (belowF zs 16 u).1 = ((5 : Nat) : Int)) (ht : (belowF zs 16 u).2 = t) :
    Calls Tryz.prog 146 #[.pointer (some ⟨p, 0, none⟩), .int .i64 D] w (TOut B p a len cap zs (armG (exactG zs) E1 E2 E3 K2 5 t).1 (armG (exactG zs) E1 E2 E3 K2 5 t).2 w) := by
  have HA := Lib.hid hA
  have HI := Lib.hid H
  have HK2 := Lib.hid hK2
  have HU := Lib.hid hu
  have HK := Lib.hid hK
  have HT := Lib.hid ht
  have d0 := hA.d0
  have d1 := hA.d1
  clear hA H hK2 hu hK ht
  go_enter Tryz.func146, Tryz.ntmps146
  go_wp2_with fail
  refine (below_any 2 HI.out).mono ?_
  rintro e w1 ⟨he, I1, G1⟩
  rw [HK2.out] at he
  subst he
  rw [HU.out] at I1
  go_wp2_with fail
  refine (below_any 16 I1).mono ?_
  rintro e w2 ⟨he, I2, G2⟩
  rw [HK.out] at he
  subst he
  rw [HT.out] at I2
  have G := Lib.hid (grown_trans G1 G2)
  have hZ := G.out.size
  clear I1 G1 G2
  go_wp2_with fail
  refine (HA.out.lv I2).mono ?_
  rintro e w3 ⟨v3, rfl, T3, I3, G3⟩
  obtain ⟨a3, c3, rfl⟩ := T3.form
  have GG3 := Lib.hid (grown_trans G.out G3)
  have hZ3 := GG3.out.size
  clear G3
  have X3 := Lib.hid (TR.down T3 (S' := w.heap.size) (by omega) HI.out.lt)
  clear T3
  go_wp2_with fail
  refine (good_parts (n := nodeO 9 (51 + (K2 : Int))) (parts_of [.slice a3 _ c3] [(lvalG (exactG zs) E2 E3 t).1] rfl (fun i h _ => by have e0 : i = 0 := (by simpa using h); subst e0; exact X3.out)) (fun q hq => by
      simp only [List.mem_cons, List.not_mem_nil, or_false] at hq
      rcases hq with rfl
      · exact HA.out.gl _
      ) (by simp)).mono ?_
  rintro e w4 hmk
  have HM := Lib.hid (TOut.make I3 HI.out.lt GG3.out ((Below.refl _ _).alloc (Nat.le_refl _) _) hmk)
  clear hmk
  obtain ⟨vz, rfl, _⟩ := HM.out
  go_wp2
  go_ret
  exact HM.out
set_option maxHeartbeats 1600000 in
theorem arm6 {w : World} {s u t : St} {K2 : Nat} (hA : Arm B p len cap a zs D E1 E2 E3 k) (H : In B w p a len cap zs s) (hK2 : (belowF zs 2 s).1 = (K2 : Int)) (hk2 : K2 < 2) (hu : (belowF zs 2 s).2 = u) (hK : (belowF zs 16 u).1 = ((6 : Nat) : Int)) (ht : (belowF zs 16 u).2 = t) :
    Calls Tryz.prog 146 #[.pointer (some ⟨p, 0, none⟩), .int .i64 D] w (TOut B p a len cap zs (armG (exactG zs) E1 E2 E3 K2 6 t).1 (armG (exactG zs) E1 E2 E3 K2 6 t).2 w) := by
  have HA := Lib.hid hA
  have HI := Lib.hid H
  have HK2 := Lib.hid hK2
  have HU := Lib.hid hu
  have HK := Lib.hid hK
  have HT := Lib.hid ht
  have d0 := hA.d0
  have d1 := hA.d1
  clear hA H hK2 hu hK ht
  go_enter Tryz.func146, Tryz.ntmps146
  go_wp2_with fail
  refine (below_any 2 HI.out).mono ?_
  rintro e w1 ⟨he, I1, G1⟩
  rw [HK2.out] at he
  subst he
  rw [HU.out] at I1
  go_wp2_with fail
  refine (below_any 16 I1).mono ?_
  rintro e w2 ⟨he, I2, G2⟩
  rw [HK.out] at he
  subst he
  rw [HT.out] at I2
  have G := Lib.hid (grown_trans G1 G2)
  have hZ := G.out.size
  clear I1 G1 G2
  go_wp2_with fail
  refine (HA.out.lv I2).mono ?_
  rintro e w3 ⟨v3, rfl, T3, I3, G3⟩
  obtain ⟨a3, c3, rfl⟩ := T3.form
  have GG3 := Lib.hid (grown_trans G.out G3)
  have hZ3 := GG3.out.size
  clear G3
  have X3 := Lib.hid (TR.down T3 (S' := w.heap.size) (by omega) HI.out.lt)
  clear T3
  go_wp2_with fail
  refine (good_parts (n := nodeO 10 (51 + (K2 : Int))) (parts_of [.slice a3 _ c3] [(lvalG (exactG zs) E2 E3 t).1] rfl (fun i h _ => by have e0 : i = 0 := (by simpa using h); subst e0; exact X3.out)) (fun q hq => by
      simp only [List.mem_cons, List.not_mem_nil, or_false] at hq
      rcases hq with rfl
      · exact HA.out.gl _
      ) (by simp)).mono ?_
  rintro e w4 hmk
  have HM := Lib.hid (TOut.make I3 HI.out.lt GG3.out ((Below.refl _ _).alloc (Nat.le_refl _) _) hmk)
  clear hmk
  obtain ⟨vz, rfl, _⟩ := HM.out
  go_wp2
  go_ret
  exact HM.out
set_option maxHeartbeats 1600000 in
theorem arm7 {w : World} {s u t : St} {K2 : Nat} (hA : Arm B p len cap a zs D E1 E2 E3 k) (H : In B w p a len cap zs s) (hK2 : (belowF zs 2 s).1 = (K2 : Int)) (hk2 : K2 < 2) (hu : (belowF zs 2 s).2 = u) (hK : (belowF zs 16 u).1 = ((7 : Nat) : Int)) (ht : (belowF zs 16 u).2 = t) :
    Calls Tryz.prog 146 #[.pointer (some ⟨p, 0, none⟩), .int .i64 D] w (TOut B p a len cap zs (armG (exactG zs) E1 E2 E3 K2 7 t).1 (armG (exactG zs) E1 E2 E3 K2 7 t).2 w) := by
  have HA := Lib.hid hA
  have HI := Lib.hid H
  have HK2 := Lib.hid hK2
  have HU := Lib.hid hu
  have HK := Lib.hid hK
  have HT := Lib.hid ht
  have d0 := hA.d0
  have d1 := hA.d1
  clear hA H hK2 hu hK ht
  go_enter Tryz.func146, Tryz.ntmps146
  go_wp2_with fail
  refine (below_any 2 HI.out).mono ?_
  rintro e w1 ⟨he, I1, G1⟩
  rw [HK2.out] at he
  subst he
  rw [HU.out] at I1
  go_wp2_with fail
  refine (below_any 16 I1).mono ?_
  rintro e w2 ⟨he, I2, G2⟩
  rw [HK.out] at he
  subst he
  rw [HT.out] at I2
  have G := Lib.hid (grown_trans G1 G2)
  have hZ := G.out.size
  clear I1 G1 G2
  go_wp2_with fail
  refine (pickInt_lit 3 [56, 55, 61] I2 rfl (by decide) (by decide)).mono ?_
  rintro e w3 ⟨⟨rfl, I3, G3⟩, Z3⟩
  have GG3 := Lib.hid (grown_trans G.out G3)
  have hZ3 := GG3.out.size
  clear G3
  go_wp2_with fail
  refine (HA.out.h1 _ _ I3).mono ?_
  rintro e w4 ⟨v4, rfl, T4, I4, G4⟩
  obtain ⟨a4, c4, rfl⟩ := T4.form
  have GG4 := Lib.hid (grown_trans GG3.out G4)
  have hZ4 := GG4.out.size
  clear G4
  have X4 := Lib.hid (TR.down T4 (S' := w.heap.size) (by omega) HI.out.lt)
  clear T4
  go_wp2_with fail
  refine (good_parts (n := nodeO 11 (piG (exactG zs) [56, 55, 61] t).1) (parts_of [.slice a4 _ c4] [(E1 (piG (exactG zs) [56, 55, 61] t).2).1] rfl (fun i h _ => by have e0 : i = 0 := (by simpa using h); subst e0; exact X4.out)) (fun q hq => by
      simp only [List.mem_cons, List.not_mem_nil, or_false] at hq
      rcases hq with rfl
      · exact HA.out.g1 _
      ) (by simp)).mono ?_
  rintro e w5 hmk
  have HM := Lib.hid (TOut.make I4 HI.out.lt GG4.out ((Below.refl _ _).alloc (Nat.le_refl _) _) hmk)
  clear hmk
  obtain ⟨vz, rfl, _⟩ := HM.out
  go_wp2
  go_ret
  exact HM.out
set_option maxHeartbeats 1600000 in
theorem arm8 {w : World} {s u t : St} {K2 : Nat} (hA : Arm B p len cap a zs D E1 E2 E3 k) (H : In B w p a len cap zs s) (hK2 : (belowF zs 2 s).1 = (K2 : Int)) (hk2 : K2 < 2) (hu : (belowF zs 2 s).2 = u) (hK : (belowF zs 16 u).1 = ((8 : Nat) : Int)) (ht : (belowF zs 16 u).2 = t) :
    Calls Tryz.prog 146 #[.pointer (some ⟨p, 0, none⟩), .int .i64 D] w (TOut B p a len cap zs (armG (exactG zs) E1 E2 E3 K2 8 t).1 (armG (exactG zs) E1 E2 E3 K2 8 t).2 w) := by
  have HA := Lib.hid hA
  have HI := Lib.hid H
  have HK2 := Lib.hid hK2
  have HU := Lib.hid hu
  have HK := Lib.hid hK
  have HT := Lib.hid ht
  have d0 := hA.d0
  have d1 := hA.d1
  clear hA H hK2 hu hK ht
  go_enter Tryz.func146, Tryz.ntmps146
  go_wp2_with fail
  refine (below_any 2 HI.out).mono ?_
  rintro e w1 ⟨he, I1, G1⟩
  rw [HK2.out] at he
  subst he
  rw [HU.out] at I1
  go_wp2_with fail
  refine (below_any 16 I1).mono ?_
  rintro e w2 ⟨he, I2, G2⟩
  rw [HK.out] at he
  subst he
  rw [HT.out] at I2
  have G := Lib.hid (grown_trans G1 G2)
  have hZ := G.out.size
  clear I1 G1 G2
  go_wp2_with fail
  refine (pickInt_lit 3 [56, 55, 61] I2 rfl (by decide) (by decide)).mono ?_
  rintro e w3 ⟨⟨rfl, I3, G3⟩, Z3⟩
  have GG3 := Lib.hid (grown_trans G.out G3)
  have hZ3 := GG3.out.size
  clear G3
  go_wp2_with fail
  refine (HA.out.h1 _ _ I3).mono ?_
  rintro e w4 ⟨v4, rfl, T4, I4, G4⟩
  obtain ⟨a4, c4, rfl⟩ := T4.form
  have GG4 := Lib.hid (grown_trans GG3.out G4)
  have hZ4 := GG4.out.size
  clear G4
  have X4 := Lib.hid (TR.down T4 (S' := w.heap.size) (by omega) HI.out.lt)
  clear T4
  go_wp2_with fail
  refine (good_parts (n := nodeO 11 (piG (exactG zs) [56, 55, 61] t).1) (parts_of [.slice a4 _ c4] [(E1 (piG (exactG zs) [56, 55, 61] t).2).1] rfl (fun i h _ => by have e0 : i = 0 := (by simpa using h); subst e0; exact X4.out)) (fun q hq => by
      simp only [List.mem_cons, List.not_mem_nil, or_false] at hq
      rcases hq with rfl
      · exact HA.out.g1 _
      ) (by simp)).mono ?_
  rintro e w5 hmk
  have HM := Lib.hid (TOut.make I4 HI.out.lt GG4.out ((Below.refl _ _).alloc (Nat.le_refl _) _) hmk)
  clear hmk
  obtain ⟨vz, rfl, _⟩ := HM.out
  go_wp2
  go_ret
  exact HM.out
set_option maxHeartbeats 1600000 in
theorem arm9 {w : World} {s u t : St} {K2 : Nat} (hA : Arm B p len cap a zs D E1 E2 E3 k) (H : In B w p a len cap zs s) (hK2 : (belowF zs 2 s).1 = (K2 : Int)) (hk2 : K2 < 2) (hu : (belowF zs 2 s).2 = u) (hK : (belowF zs 16 u).1 = ((9 : Nat) : Int)) (ht : (belowF zs 16 u).2 = t) :
    Calls Tryz.prog 146 #[.pointer (some ⟨p, 0, none⟩), .int .i64 D] w (TOut B p a len cap zs (armG (exactG zs) E1 E2 E3 K2 9 t).1 (armG (exactG zs) E1 E2 E3 K2 9 t).2 w) := by
  have HA := Lib.hid hA
  have HI := Lib.hid H
  have HK2 := Lib.hid hK2
  have HU := Lib.hid hu
  have HK := Lib.hid hK
  have HT := Lib.hid ht
  have d0 := hA.d0
  have d1 := hA.d1
  clear hA H hK2 hu hK ht
  go_enter Tryz.func146, Tryz.ntmps146
  go_wp2_with fail
  refine (below_any 2 HI.out).mono ?_
  rintro e w1 ⟨he, I1, G1⟩
  rw [HK2.out] at he
  subst he
  rw [HU.out] at I1
  go_wp2_with fail
  refine (below_any 16 I1).mono ?_
  rintro e w2 ⟨he, I2, G2⟩
  rw [HK.out] at he
  subst he
  rw [HT.out] at I2
  have G := Lib.hid (grown_trans G1 G2)
  have hZ := G.out.size
  clear I1 G1 G2
  go_wp2_with fail
  refine (word_ok I2).mono ?_
  rintro e w3 ⟨⟨rfl, I3, G3⟩, Z3⟩
  have GG3 := Lib.hid (grown_trans G.out G3)
  have hZ3 := GG3.out.size
  clear G3
  go_wp2_with fail
  refine (list_ok 1 2 _ E1 (by decide) (by decide) HA.out.h1 I3).mono ?_
  rintro e w4 ⟨g4, c4, vs4, rfl, L4, GL4⟩
  have HL4 := Lib.hid L4
  have HGL4 := Lib.hid (grown_trans GG3.out GL4)
  have HZ4 := HGL4.out.size
  clear L4 GL4
  go_wp2_with fail
  refine (good_parts (n := nodeS 13 (pkG (exactG zs) l2WordL t).1) HL4.out.parts (times_all HA.out.g1 _ _) (Nat.le_trans (list_len zs _ _ _ (by decide) _) (by decide))).mono ?_
  rintro e w5 hmk
  have HM := Lib.hid (TOut.make HL4.out.cur HI.out.lt HGL4.out (Below.refl _ _) hmk)
  clear hmk
  obtain ⟨vz, rfl, _⟩ := HM.out
  go_wp2
  go_ret
  exact HM.out
set_option maxHeartbeats 1600000 in
theorem arm10 {w : World} {s u t : St} {K2 : Nat} (hA : Arm B p len cap a zs D E1 E2 E3 k) (H : In B w p a len cap zs s) (hK2 : (belowF zs 2 s).1 = (K2 : Int)) (hk2 : K2 < 2) (hu : (belowF zs 2 s).2 = u) (hK : (belowF zs 16 u).1 = ((10 : Nat) : Int)) (ht : (belowF zs 16 u).2 = t) :
    Calls Tryz.prog 146 #[.pointer (some ⟨p, 0, none⟩), .int .i64 D] w (TOut B p a len cap zs (armG (exactG zs) E1 E2 E3 K2 10 t).1 (armG (exactG zs) E1 E2 E3 K2 10 t).2 w) := by
  have HA := Lib.hid hA
  have HI := Lib.hid H
  have HK2 := Lib.hid hK2
  have HU := Lib.hid hu
  have HK := Lib.hid hK
  have HT := Lib.hid ht
  have d0 := hA.d0
  have d1 := hA.d1
  clear hA H hK2 hu hK ht
  go_enter Tryz.func146, Tryz.ntmps146
  go_wp2_with fail
  refine (below_any 2 HI.out).mono ?_
  rintro e w1 ⟨he, I1, G1⟩
  rw [HK2.out] at he
  subst he
  rw [HU.out] at I1
  go_wp2_with fail
  refine (below_any 16 I1).mono ?_
  rintro e w2 ⟨he, I2, G2⟩
  rw [HK.out] at he
  subst he
  rw [HT.out] at I2
  have G := Lib.hid (grown_trans G1 G2)
  have hZ := G.out.size
  clear I1 G1 G2
  go_wp2_with fail
  refine (HA.out.h1 _ _ I2).mono ?_
  rintro e w3 ⟨v3, rfl, T3, I3, G3⟩
  obtain ⟨a3, c3, rfl⟩ := T3.form
  have GG3 := Lib.hid (grown_trans G.out G3)
  have hZ3 := GG3.out.size
  clear G3
  have X3 := Lib.hid (TR.down T3 (S' := w.heap.size) (by omega) HI.out.lt)
  clear T3
  go_wp2_with fail
  refine (HA.out.h1 _ _ I3).mono ?_
  rintro e w4 ⟨v4, rfl, T4, I4, G4⟩
  obtain ⟨a4, c4, rfl⟩ := T4.form
  have X3' := Lib.hid (X3.out.grown G4)
  clear X3
  have X3 := X3'
  clear X3'
  have GG4 := Lib.hid (grown_trans GG3.out G4)
  have hZ4 := GG4.out.size
  clear G4
  have X4 := Lib.hid (TR.down T4 (S' := w.heap.size) (by omega) HI.out.lt)
  clear T4
  go_wp2_with fail
  refine (HA.out.h1 _ _ I4).mono ?_
  rintro e w5 ⟨v5, rfl, T5, I5, G5⟩
  obtain ⟨a5, c5, rfl⟩ := T5.form
  have X3' := Lib.hid (X3.out.grown G5)
  clear X3
  have X3 := X3'
  clear X3'
  have X4' := Lib.hid (X4.out.grown G5)
  clear X4
  have X4 := X4'
  clear X4'
  have GG5 := Lib.hid (grown_trans GG4.out G5)
  have hZ5 := GG5.out.size
  clear G5
  have X5 := Lib.hid (TR.down T5 (S' := w.heap.size) (by omega) HI.out.lt)
  clear T5
  go_wp2_with fail
  refine (good_parts (n := nodeO 14 0) (parts_of [.slice a3 _ c3, .slice a4 _ c4, .slice a5 _ c5] [(E1 t).1, (E1 (E1 t).2).1, (E1 (E1 (E1 t).2).2).1] rfl (fun i h _ => by
      have e0 : i = 0 ∨ i = 1 ∨ i = 2 := (by simp at h; omega)
      rcases e0 with rfl | rfl | rfl
      · exact X3.out
      · exact X4.out
      · exact X5.out
      )) (fun q hq => by
      simp only [List.mem_cons, List.not_mem_nil, or_false] at hq
      rcases hq with rfl | rfl | rfl
      · exact HA.out.g1 _
      · exact HA.out.g1 _
      · exact HA.out.g1 _
      ) (by simp)).mono ?_
  rintro e w6 hmk
  have HM := Lib.hid (TOut.make I5 HI.out.lt GG5.out ((Below.refl _ _).alloc (Nat.le_refl _) _) hmk)
  clear hmk
  obtain ⟨vz, rfl, _⟩ := HM.out
  go_wp2
  go_ret
  exact HM.out
set_option maxHeartbeats 1600000 in
theorem arm11 {w : World} {s u t : St} {K2 : Nat} (hA : Arm B p len cap a zs D E1 E2 E3 k) (H : In B w p a len cap zs s) (hK2 : (belowF zs 2 s).1 = (K2 : Int)) (hk2 : K2 < 2) (hu : (belowF zs 2 s).2 = u) (hK : (belowF zs 16 u).1 = ((11 : Nat) : Int)) (ht : (belowF zs 16 u).2 = t) :
    Calls Tryz.prog 146 #[.pointer (some ⟨p, 0, none⟩), .int .i64 D] w (TOut B p a len cap zs (armG (exactG zs) E1 E2 E3 K2 11 t).1 (armG (exactG zs) E1 E2 E3 K2 11 t).2 w) := by
  have HA := Lib.hid hA
  have HI := Lib.hid H
  have HK2 := Lib.hid hK2
  have HU := Lib.hid hu
  have HK := Lib.hid hK
  have HT := Lib.hid ht
  have d0 := hA.d0
  have d1 := hA.d1
  clear hA H hK2 hu hK ht
  go_enter Tryz.func146, Tryz.ntmps146
  go_wp2_with fail
  refine (below_any 2 HI.out).mono ?_
  rintro e w1 ⟨he, I1, G1⟩
  rw [HK2.out] at he
  subst he
  rw [HU.out] at I1
  go_wp2_with fail
  refine (below_any 16 I1).mono ?_
  rintro e w2 ⟨he, I2, G2⟩
  rw [HK.out] at he
  subst he
  rw [HT.out] at I2
  have G := Lib.hid (grown_trans G1 G2)
  have hZ := G.out.size
  clear I1 G1 G2
  go_wp2_with fail
  refine (pickInt_lit 3 [54, 38, 43] I2 rfl (by decide) (by decide)).mono ?_
  rintro e w3 ⟨⟨rfl, I3, G3⟩, Z3⟩
  have GG3 := Lib.hid (grown_trans G.out G3)
  have hZ3 := GG3.out.size
  clear G3
  go_wp2_with fail
  refine (HA.out.lv I3).mono ?_
  rintro e w4 ⟨v4, rfl, T4, I4, G4⟩
  obtain ⟨a4, c4, rfl⟩ := T4.form
  have GG4 := Lib.hid (grown_trans GG3.out G4)
  have hZ4 := GG4.out.size
  clear G4
  have X4 := Lib.hid (TR.down T4 (S' := w.heap.size) (by omega) HI.out.lt)
  clear T4
  go_wp2_with fail
  refine (HA.out.h1 _ _ I4).mono ?_
  rintro e w5 ⟨v5, rfl, T5, I5, G5⟩
  obtain ⟨a5, c5, rfl⟩ := T5.form
  have X4' := Lib.hid (X4.out.grown G5)
  clear X4
  have X4 := X4'
  clear X4'
  have GG5 := Lib.hid (grown_trans GG4.out G5)
  have hZ5 := GG5.out.size
  clear G5
  have X5 := Lib.hid (TR.down T5 (S' := w.heap.size) (by omega) HI.out.lt)
  clear T5
  go_wp2_with fail
  refine (good_parts (n := nodeO 15 (piG (exactG zs) [54, 38, 43] t).1) (parts_of [.slice a4 _ c4, .slice a5 _ c5] [(lvalG (exactG zs) E2 E3 (piG (exactG zs) [54, 38, 43] t).2).1, (E1 (lvalG (exactG zs) E2 E3 (piG (exactG zs) [54, 38, 43] t).2).2).1] rfl (fun i h _ => by
      have e0 : i = 0 ∨ i = 1 := (by simp at h; omega)
      rcases e0 with rfl | rfl
      · exact X4.out
      · exact X5.out
      )) (fun q hq => by
      simp only [List.mem_cons, List.not_mem_nil, or_false] at hq
      rcases hq with rfl | rfl
      · exact HA.out.gl _
      · exact HA.out.g1 _
      ) (by simp)).mono ?_
  rintro e w6 hmk
  have HM := Lib.hid (TOut.make I5 HI.out.lt GG5.out ((Below.refl _ _).alloc (Nat.le_refl _) _) hmk)
  clear hmk
  obtain ⟨vz, rfl, _⟩ := HM.out
  go_wp2
  go_ret
  exact HM.out
set_option maxHeartbeats 1600000 in
theorem arm12 {w : World} {s u t : St} {K2 : Nat} (hA : Arm B p len cap a zs D E1 E2 E3 k) (H : In B w p a len cap zs s) (hK2 : (belowF zs 2 s).1 = (K2 : Int)) (hk2 : K2 < 2) (hu : (belowF zs 2 s).2 = u) (hK : (belowF zs 16 u).1 = ((12 : Nat) : Int)) (ht : (belowF zs 16 u).2 = t) :
    Calls Tryz.prog 146 #[.pointer (some ⟨p, 0, none⟩), .int .i64 D] w (TOut B p a len cap zs (armG (exactG zs) E1 E2 E3 K2 12 t).1 (armG (exactG zs) E1 E2 E3 K2 12 t).2 w) := by
  have HA := Lib.hid hA
  have HI := Lib.hid H
  have HK2 := Lib.hid hK2
  have HU := Lib.hid hu
  have HK := Lib.hid hK
  have HT := Lib.hid ht
  have d0 := hA.d0
  have d1 := hA.d1
  clear hA H hK2 hu hK ht
  go_enter Tryz.func146, Tryz.ntmps146
  go_wp2_with fail
  refine (below_any 2 HI.out).mono ?_
  rintro e w1 ⟨he, I1, G1⟩
  rw [HK2.out] at he
  subst he
  rw [HU.out] at I1
  go_wp2_with fail
  refine (below_any 16 I1).mono ?_
  rintro e w2 ⟨he, I2, G2⟩
  rw [HK.out] at he
  subst he
  rw [HT.out] at I2
  have G := Lib.hid (grown_trans G1 G2)
  have hZ := G.out.size
  clear I1 G1 G2
  go_wp2_with fail
  refine (binop_ok I2).mono ?_
  rintro e w3 ⟨⟨rfl, I3, G3⟩, Z3⟩
  have GG3 := Lib.hid (grown_trans G.out G3)
  have hZ3 := GG3.out.size
  clear G3
  go_wp2_with fail
  refine (HA.out.h1 _ _ I3).mono ?_
  rintro e w4 ⟨v4, rfl, T4, I4, G4⟩
  obtain ⟨a4, c4, rfl⟩ := T4.form
  have GG4 := Lib.hid (grown_trans GG3.out G4)
  have hZ4 := GG4.out.size
  clear G4
  have X4 := Lib.hid (TR.down T4 (S' := w.heap.size) (by omega) HI.out.lt)
  clear T4
  go_wp2_with fail
  refine (HA.out.h1 _ _ I4).mono ?_
  rintro e w5 ⟨v5, rfl, T5, I5, G5⟩
  obtain ⟨a5, c5, rfl⟩ := T5.form
  have X4' := Lib.hid (X4.out.grown G5)
  clear X4
  have X4 := X4'
  clear X4'
  have GG5 := Lib.hid (grown_trans GG4.out G5)
  have hZ5 := GG5.out.size
  clear G5
  have X5 := Lib.hid (TR.down T5 (S' := w.heap.size) (by omega) HI.out.lt)
  clear T5
  go_wp2_with fail
  refine (good_parts (n := nodeO 12 (piG (exactG zs) l7BinL t).1) (parts_of [.slice a4 _ c4, .slice a5 _ c5] [(E1 (piG (exactG zs) l7BinL t).2).1, (E1 (E1 (piG (exactG zs) l7BinL t).2).2).1] rfl (fun i h _ => by
      have e0 : i = 0 ∨ i = 1 := (by simp at h; omega)
      rcases e0 with rfl | rfl
      · exact X4.out
      · exact X5.out
      )) (fun q hq => by
      simp only [List.mem_cons, List.not_mem_nil, or_false] at hq
      rcases hq with rfl | rfl
      · exact HA.out.g1 _
      · exact HA.out.g1 _
      ) (by simp)).mono ?_
  rintro e w6 hmk
  have HM := Lib.hid (TOut.make I5 HI.out.lt GG5.out ((Below.refl _ _).alloc (Nat.le_refl _) _) hmk)
  clear hmk
  obtain ⟨vz, rfl, _⟩ := HM.out
  go_wp2
  go_ret
  exact HM.out
set_option maxHeartbeats 1600000 in
theorem arm13 {w : World} {s u t : St} {K2 : Nat} (hA : Arm B p len cap a zs D E1 E2 E3 k) (H : In B w p a len cap zs s) (hK2 : (belowF zs 2 s).1 = (K2 : Int)) (hk2 : K2 < 2) (hu : (belowF zs 2 s).2 = u) (hK : (belowF zs 16 u).1 = ((13 : Nat) : Int)) (ht : (belowF zs 16 u).2 = t) :
    Calls Tryz.prog 146 #[.pointer (some ⟨p, 0, none⟩), .int .i64 D] w (TOut B p a len cap zs (armG (exactG zs) E1 E2 E3 K2 13 t).1 (armG (exactG zs) E1 E2 E3 K2 13 t).2 w) := by
  have HA := Lib.hid hA
  have HI := Lib.hid H
  have HK2 := Lib.hid hK2
  have HU := Lib.hid hu
  have HK := Lib.hid hK
  have HT := Lib.hid ht
  have d0 := hA.d0
  have d1 := hA.d1
  clear hA H hK2 hu hK ht
  go_enter Tryz.func146, Tryz.ntmps146
  go_wp2_with fail
  refine (below_any 2 HI.out).mono ?_
  rintro e w1 ⟨he, I1, G1⟩
  rw [HK2.out] at he
  subst he
  rw [HU.out] at I1
  go_wp2_with fail
  refine (below_any 16 I1).mono ?_
  rintro e w2 ⟨he, I2, G2⟩
  rw [HK.out] at he
  subst he
  rw [HT.out] at I2
  have G := Lib.hid (grown_trans G1 G2)
  have hZ := G.out.size
  clear I1 G1 G2
  go_wp2_with fail
  refine (binop_ok I2).mono ?_
  rintro e w3 ⟨⟨rfl, I3, G3⟩, Z3⟩
  have GG3 := Lib.hid (grown_trans G.out G3)
  have hZ3 := GG3.out.size
  clear G3
  go_wp2_with fail
  refine (HA.out.h1 _ _ I3).mono ?_
  rintro e w4 ⟨v4, rfl, T4, I4, G4⟩
  obtain ⟨a4, c4, rfl⟩ := T4.form
  have GG4 := Lib.hid (grown_trans GG3.out G4)
  have hZ4 := GG4.out.size
  clear G4
  have X4 := Lib.hid (TR.down T4 (S' := w.heap.size) (by omega) HI.out.lt)
  clear T4
  go_wp2_with fail
  refine (HA.out.h1 _ _ I4).mono ?_
  rintro e w5 ⟨v5, rfl, T5, I5, G5⟩
  obtain ⟨a5, c5, rfl⟩ := T5.form
  have X4' := Lib.hid (X4.out.grown G5)
  clear X4
  have X4 := X4'
  clear X4'
  have GG5 := Lib.hid (grown_trans GG4.out G5)
  have hZ5 := GG5.out.size
  clear G5
  have X5 := Lib.hid (TR.down T5 (S' := w.heap.size) (by omega) HI.out.lt)
  clear T5
  go_wp2_with fail
  refine (good_parts (n := nodeO 12 (piG (exactG zs) l7BinL t).1) (parts_of [.slice a4 _ c4, .slice a5 _ c5] [(E1 (piG (exactG zs) l7BinL t).2).1, (E1 (E1 (piG (exactG zs) l7BinL t).2).2).1] rfl (fun i h _ => by
      have e0 : i = 0 ∨ i = 1 := (by simp at h; omega)
      rcases e0 with rfl | rfl
      · exact X4.out
      · exact X5.out
      )) (fun q hq => by
      simp only [List.mem_cons, List.not_mem_nil, or_false] at hq
      rcases hq with rfl | rfl
      · exact HA.out.g1 _
      · exact HA.out.g1 _
      ) (by simp)).mono ?_
  rintro e w6 hmk
  have HM := Lib.hid (TOut.make I5 HI.out.lt GG5.out ((Below.refl _ _).alloc (Nat.le_refl _) _) hmk)
  clear hmk
  obtain ⟨vz, rfl, _⟩ := HM.out
  go_wp2
  go_ret
  exact HM.out
set_option maxHeartbeats 1600000 in
theorem arm14 {w : World} {s u t : St} {K2 : Nat} (hA : Arm B p len cap a zs D E1 E2 E3 k) (H : In B w p a len cap zs s) (hK2 : (belowF zs 2 s).1 = (K2 : Int)) (hk2 : K2 < 2) (hu : (belowF zs 2 s).2 = u) (hK : (belowF zs 16 u).1 = ((14 : Nat) : Int)) (ht : (belowF zs 16 u).2 = t) :
    Calls Tryz.prog 146 #[.pointer (some ⟨p, 0, none⟩), .int .i64 D] w (TOut B p a len cap zs (armG (exactG zs) E1 E2 E3 K2 14 t).1 (armG (exactG zs) E1 E2 E3 K2 14 t).2 w) := by
  have HA := Lib.hid hA
  have HI := Lib.hid H
  have HK2 := Lib.hid hK2
  have HU := Lib.hid hu
  have HK := Lib.hid hK
  have HT := Lib.hid ht
  have d0 := hA.d0
  have d1 := hA.d1
  clear hA H hK2 hu hK ht
  go_enter Tryz.func146, Tryz.ntmps146
  go_wp2_with fail
  refine (below_any 2 HI.out).mono ?_
  rintro e w1 ⟨he, I1, G1⟩
  rw [HK2.out] at he
  subst he
  rw [HU.out] at I1
  go_wp2_with fail
  refine (below_any 16 I1).mono ?_
  rintro e w2 ⟨he, I2, G2⟩
  rw [HK.out] at he
  subst he
  rw [HT.out] at I2
  have G := Lib.hid (grown_trans G1 G2)
  have hZ := G.out.size
  clear I1 G1 G2
  go_wp2_with fail
  refine (binop_ok I2).mono ?_
  rintro e w3 ⟨⟨rfl, I3, G3⟩, Z3⟩
  have GG3 := Lib.hid (grown_trans G.out G3)
  have hZ3 := GG3.out.size
  clear G3
  go_wp2_with fail
  refine (HA.out.h1 _ _ I3).mono ?_
  rintro e w4 ⟨v4, rfl, T4, I4, G4⟩
  obtain ⟨a4, c4, rfl⟩ := T4.form
  have GG4 := Lib.hid (grown_trans GG3.out G4)
  have hZ4 := GG4.out.size
  clear G4
  have X4 := Lib.hid (TR.down T4 (S' := w.heap.size) (by omega) HI.out.lt)
  clear T4
  go_wp2_with fail
  refine (HA.out.h1 _ _ I4).mono ?_
  rintro e w5 ⟨v5, rfl, T5, I5, G5⟩
  obtain ⟨a5, c5, rfl⟩ := T5.form
  have X4' := Lib.hid (X4.out.grown G5)
  clear X4
  have X4 := X4'
  clear X4'
  have GG5 := Lib.hid (grown_trans GG4.out G5)
  have hZ5 := GG5.out.size
  clear G5
  have X5 := Lib.hid (TR.down T5 (S' := w.heap.size) (by omega) HI.out.lt)
  clear T5
  go_wp2_with fail
  refine (good_parts (n := nodeO 12 (piG (exactG zs) l7BinL t).1) (parts_of [.slice a4 _ c4, .slice a5 _ c5] [(E1 (piG (exactG zs) l7BinL t).2).1, (E1 (E1 (piG (exactG zs) l7BinL t).2).2).1] rfl (fun i h _ => by
      have e0 : i = 0 ∨ i = 1 := (by simp at h; omega)
      rcases e0 with rfl | rfl
      · exact X4.out
      · exact X5.out
      )) (fun q hq => by
      simp only [List.mem_cons, List.not_mem_nil, or_false] at hq
      rcases hq with rfl | rfl
      · exact HA.out.g1 _
      · exact HA.out.g1 _
      ) (by simp)).mono ?_
  rintro e w6 hmk
  have HM := Lib.hid (TOut.make I5 HI.out.lt GG5.out ((Below.refl _ _).alloc (Nat.le_refl _) _) hmk)
  clear hmk
  obtain ⟨vz, rfl, _⟩ := HM.out
  go_wp2
  go_ret
  exact HM.out
set_option maxHeartbeats 1600000 in
theorem arm15 {w : World} {s u t : St} {K2 : Nat} (hA : Arm B p len cap a zs D E1 E2 E3 k) (H : In B w p a len cap zs s) (hK2 : (belowF zs 2 s).1 = (K2 : Int)) (hk2 : K2 < 2) (hu : (belowF zs 2 s).2 = u) (hK : (belowF zs 16 u).1 = ((15 : Nat) : Int)) (ht : (belowF zs 16 u).2 = t) :
    Calls Tryz.prog 146 #[.pointer (some ⟨p, 0, none⟩), .int .i64 D] w (TOut B p a len cap zs (armG (exactG zs) E1 E2 E3 K2 15 t).1 (armG (exactG zs) E1 E2 E3 K2 15 t).2 w) := by
  have HA := Lib.hid hA
  have HI := Lib.hid H
  have HK2 := Lib.hid hK2
  have HU := Lib.hid hu
  have HK := Lib.hid hK
  have HT := Lib.hid ht
  have d0 := hA.d0
  have d1 := hA.d1
  clear hA H hK2 hu hK ht
  go_enter Tryz.func146, Tryz.ntmps146
  go_wp2_with fail
  refine (below_any 2 HI.out).mono ?_
  rintro e w1 ⟨he, I1, G1⟩
  rw [HK2.out] at he
  subst he
  rw [HU.out] at I1
  go_wp2_with fail
  refine (below_any 16 I1).mono ?_
  rintro e w2 ⟨he, I2, G2⟩
  rw [HK.out] at he
  subst he
  rw [HT.out] at I2
  have G := Lib.hid (grown_trans G1 G2)
  have hZ := G.out.size
  clear I1 G1 G2
  go_wp2_with fail
  refine (binop_ok I2).mono ?_
  rintro e w3 ⟨⟨rfl, I3, G3⟩, Z3⟩
  have GG3 := Lib.hid (grown_trans G.out G3)
  have hZ3 := GG3.out.size
  clear G3
  go_wp2_with fail
  refine (HA.out.h1 _ _ I3).mono ?_
  rintro e w4 ⟨v4, rfl, T4, I4, G4⟩
  obtain ⟨a4, c4, rfl⟩ := T4.form
  have GG4 := Lib.hid (grown_trans GG3.out G4)
  have hZ4 := GG4.out.size
  clear G4
  have X4 := Lib.hid (TR.down T4 (S' := w.heap.size) (by omega) HI.out.lt)
  clear T4
  go_wp2_with fail
  refine (HA.out.h1 _ _ I4).mono ?_
  rintro e w5 ⟨v5, rfl, T5, I5, G5⟩
  obtain ⟨a5, c5, rfl⟩ := T5.form
  have X4' := Lib.hid (X4.out.grown G5)
  clear X4
  have X4 := X4'
  clear X4'
  have GG5 := Lib.hid (grown_trans GG4.out G5)
  have hZ5 := GG5.out.size
  clear G5
  have X5 := Lib.hid (TR.down T5 (S' := w.heap.size) (by omega) HI.out.lt)
  clear T5
  go_wp2_with fail
  refine (good_parts (n := nodeO 12 (piG (exactG zs) l7BinL t).1) (parts_of [.slice a4 _ c4, .slice a5 _ c5] [(E1 (piG (exactG zs) l7BinL t).2).1, (E1 (E1 (piG (exactG zs) l7BinL t).2).2).1] rfl (fun i h _ => by
      have e0 : i = 0 ∨ i = 1 := (by simp at h; omega)
      rcases e0 with rfl | rfl
      · exact X4.out
      · exact X5.out
      )) (fun q hq => by
      simp only [List.mem_cons, List.not_mem_nil, or_false] at hq
      rcases hq with rfl | rfl
      · exact HA.out.g1 _
      · exact HA.out.g1 _
      ) (by simp)).mono ?_
  rintro e w6 hmk
  have HM := Lib.hid (TOut.make I5 HI.out.lt GG5.out ((Below.refl _ _).alloc (Nat.le_refl _) _) hmk)
  clear hmk
  obtain ⟨vz, rfl, _⟩ := HM.out
  go_wp2
  go_ret
  exact HM.out
theorem step_ok {w : World} {s : St} (hA : Arm B p len cap a zs D E1 E2 E3 k) (H : In B w p a len cap zs s) :
    Calls Tryz.prog 146 #[.pointer (some ⟨p, 0, none⟩), .int .i64 D] w (TOut B p a len cap zs (stepG (exactG zs) E1 E2 E3 s).1 (stepG (exactG zs) E1 E2 E3 s).2 w) := by
  have hb2 := belowF_bd zs 2 s (by omega)
  obtain ⟨K2, hK2⟩ : ∃ K : Nat, (belowF zs 2 s).1 = K := ⟨(belowF zs 2 s).1.toNat, by omega⟩
  obtain ⟨u, hu⟩ : ∃ u, (belowF zs 2 s).2 = u := ⟨_, rfl⟩
  have hb := belowF_bd zs 16 u (by omega)
  obtain ⟨K, hK⟩ : ∃ K : Nat, (belowF zs 16 u).1 = K := ⟨(belowF zs 16 u).1.toNat, by omega⟩
  obtain ⟨t, ht⟩ : ∃ t, (belowF zs 16 u).2 = t := ⟨_, rfl⟩
  have e2 : (exactG zs).bl 2 s = (K2, u) := by
    show ((belowF zs 2 s).1.toNat, (belowF zs 2 s).2) = _
    rw [hK2, hu, Int.toNat_natCast]
  have e16 : (exactG zs).bl 16 u = (K, t) := by
    show ((belowF zs 16 u).1.toNat, (belowF zs 16 u).2) = _
    rw [hK, ht, Int.toNat_natCast]
  have hq : stepG (exactG zs) E1 E2 E3 s = armG (exactG zs) E1 E2 E3 K2 K t := by
    rw [step_arm, e2]
    show armG (exactG zs) E1 E2 E3 K2 ((exactG zs).bl 16 u).1 ((exactG zs).bl 16 u).2 = _
    rw [e16]
  rw [hq]
  rw [hK2] at hb2
  have hk2 : K2 < 2 := by omega
  clear hq e2 e16
  rcases (show K = 0 ∨ K = 1 ∨ K = 2 ∨ K = 3 ∨ K = 4 ∨ K = 5 ∨ K = 6 ∨ K = 7 ∨ K = 8 ∨ K = 9 ∨ K = 10 ∨ K = 11 ∨ K = 12 ∨ K = 13 ∨ K = 14 ∨ K = 15 by rw [hK] at hb; omega) with rfl | rfl | rfl | rfl | rfl | rfl | rfl | rfl | rfl | rfl | rfl | rfl | rfl | rfl | rfl | rfl
  · exact arm0 hA H hK2 hk2 hu hK ht
  · exact arm1 hA H hK2 hk2 hu hK ht
  · exact arm2 hA H hK2 hk2 hu hK ht
  · exact arm3 hA H hK2 hk2 hu hK ht
  · exact arm4 hA H hK2 hk2 hu hK ht
  · exact arm5 hA H hK2 hk2 hu hK ht
  · exact arm6 hA H hK2 hk2 hu hK ht
  · exact arm7 hA H hK2 hk2 hu hK ht
  · exact arm8 hA H hK2 hk2 hu hK ht
  · exact arm9 hA H hK2 hk2 hu hK ht
  · exact arm10 hA H hK2 hk2 hu hK ht
  · exact arm11 hA H hK2 hk2 hu hK ht
  · exact arm12 hA H hK2 hk2 hu hK ht
  · exact arm13 hA H hK2 hk2 hu hK ht
  · exact arm14 hA H hK2 hk2 hu hK ht
  · exact arm15 hA H hK2 hk2 hu hK ht
set_option maxHeartbeats 1600000 in
theorem expr_leaf {w : World} {s : St} (D : Int) (hD : -100 ≤ D ∧ D ≤ 0) (H : In B w p a len cap zs s) :
    Calls Tryz.prog 146 #[.pointer (some ⟨p, 0, none⟩), .int .i64 D] w (TOut B p a len cap zs (leafG (exactG zs) s).1 (leafG (exactG zs) s).2 w) := by
  have HI := Lib.hid H
  clear H
  obtain ⟨d0, d1⟩ := hD
  go_enter Tryz.func146, Tryz.ntmps146
  go_wp2_with fail
  refine (leaf_ok HI.out).mono ?_
  rintro e w3 ho
  have HM := Lib.hid ho
  clear ho
  obtain ⟨vz, rfl, _⟩ := HM.out
  go_wp2
  go_ret
  exact HM.out
theorem kZ_le : ∀ d, d ≤ 6 → kZ d ≤ 5000 := by decide
theorem expr_all (B p len cap : Nat) (a : Option Addr) (zs : List Int) : ∀ d : Nat, d ≤ 7 → ExprC B p len cap a zs 146 (d : Int) (exprs (exactG zs) d).1 ∧ ExprC B p len cap a zs 146 ((d : Int) - 1) (exprs (exactG zs) d).2.1 ∧ ExprC B p len cap a zs 146 ((d : Int) - 2) (exprs (exactG zs) d).2.2 := by
  intro d
  induction d with
  | zero => intro _; exact ⟨fun w s H => expr_leaf _ (by decide) H, fun w s H => expr_leaf _ (by decide) H, fun w s H => expr_leaf _ (by decide) H⟩
  | succ d ih =>
    intro hd
    obtain ⟨i1, i2, i3⟩ := ih (by omega)
    obtain ⟨m1, m2, m3⟩ := exprs_small zs d
    refine ⟨fun w s H => ?_, ?_, ?_⟩
    · exact step_ok (k := kZ d) (D := ((d + 1 : Nat) : Int)) ⟨by omega, by omega, by rw [show ((d + 1 : Nat) : Int) - 1 = (d : Int) by omega]; exact i1, by rw [show ((d + 1 : Nat) : Int) - 2 = (d : Int) - 1 by omega]; exact i2, by rw [show ((d + 1 : Nat) : Int) - 3 = (d : Int) - 2 by omega]; exact i3, m1, m2, m3, kZ_le d (by omega)⟩ H
    · rw [show ((d + 1 : Nat) : Int) - 1 = (d : Int) by omega]; exact i1
    · rw [show ((d + 1 : Nat) : Int) - 2 = (d : Int) - 1 by omega]; exact i2
/-- An expression's draw. -/
theorem expr_ok (d : Nat) (hd : d ≤ 7) (B p len cap : Nat) (a : Option Addr) (zs : List Int) : ExprC B p len cap a zs 146 (d : Int) (exprG (exactG zs) d) := (expr_all B p len cap a zs d hd).1
end
end Go.Proofs.YtiilpnoaocfjgaaGreatDoor.draw

namespace Go.Proofs.YtiilpnoaocfjgaaGreatDoor.draw
open Go.ChangeShapes Go.WideShapes Go.ChangeAt Go.RowKit
open nd
set_option linter.unusedVariables false

section
variable {B p len cap : Nat} {a : Option Addr} {zs : List Int}
theorem bl_cast (n : Nat) (s : St) (hn : 0 < n) : (((exactG zs).bl n s).1 : Int) = (belowF zs n s).1 := by
  have h := belowF_bd zs n s (by omega)
  show (((belowF zs n s).1.toNat : Nat) : Int) = _
  omega
theorem bl_ok {w : World} {s : St} {K : Nat} (n : Nat) (hn : 0 < n) (hK : ((exactG zs).bl n s).1 = K) (H : In B w p a len cap zs s) :
    Calls Tryz.prog 108 #[.pointer (some ⟨p, 0, none⟩), .int .i64 n] w (Out B p a len cap zs (.int .i64 K) ((exactG zs).bl n s).2 w) := by
  rw [← hK, bl_cast n s hn]
  exact below_any n H
theorem once_yes {w : World} {s : St} (n : Nat) (hn : 0 < n) (hK : ((exactG zs).bl n s).1 = 0) (H : In B w p a len cap zs s) :
    Calls Tryz.prog 56 #[.pointer (some ⟨p, 0, none⟩), .int .i64 n] w (Out B p a len cap zs (.bool true) ((exactG zs).bl n s).2 w) := by
  have h := bl_cast (zs := zs) n s hn
  rw [show (true : Bool) = ((belowF zs n s).1 == 0) by rw [← h, hK]; rfl]
  exact once_any n H
theorem once_no {w : World} {s : St} (n : Nat) (hn : 0 < n) (hK : ¬ ((exactG zs).bl n s).1 = 0) (H : In B w p a len cap zs s) :
    Calls Tryz.prog 56 #[.pointer (some ⟨p, 0, none⟩), .int .i64 n] w (Out B p a len cap zs (.bool false) ((exactG zs).bl n s).2 w) := by
  have h := bl_cast (zs := zs) n s hn
  rw [show (false : Bool) = ((belowF zs n s).1 == 0) by rw [← h]; simp; omega]
  exact once_any n H
theorem maybe_ok {D : Int} {E : St → List Nd × St} (hD : -100 ≤ D ∧ D ≤ 100) (h : ExprC B p len cap a zs 146 D E) : ExprC B p len cap a zs 349 D (maybeG (exactG zs) E) := by
  intro w s H
  have HI := Lib.hid H
  have HE := Lib.hid h
  clear H h
  by_cases hc : ((exactG zs).bl 3 s).1 = 0
  · have HQ := Lib.hid (show maybeG (exactG zs) E s = (leaf 16 ⟨#[]⟩, ((exactG zs).bl 3 s).2) by unfold maybeG; rw [if_pos hc]; rfl)
    go_enter Tryz.func349, Tryz.ntmps349
    go_wp2_with fail
    refine (once_yes 3 (by decide) hc HI.out).mono ?_
    rintro e w1 ⟨rfl, I1, G1⟩
    have GG1 := Lib.hid (grown_trans (grown_refl) G1)
    have hZ1 := GG1.out.size
    clear G1
    have HM := Lib.hid (TOut.leaf0 16 ⟨#[]⟩ I1 HI.out.lt (GG1.out))
    go_wp2
    go_ret
    rw [HQ.out]
    exact HM.out
  · have HQ := Lib.hid (show maybeG (exactG zs) E s = E ((exactG zs).bl 3 s).2 by unfold maybeG; rw [if_neg hc])
    go_enter Tryz.func349, Tryz.ntmps349
    go_wp2_with fail
    refine (once_no 3 (by decide) hc HI.out).mono ?_
    rintro e w1 ⟨rfl, I1, G1⟩
    have GG1 := Lib.hid (grown_trans (grown_refl) G1)
    have hZ1 := GG1.out.size
    clear G1
    go_wp2_with fail
    refine (HE.out _ _ I1).mono ?_
    rintro e w2 ho
    have HM := Lib.hid (TOut.back (GG1.out) HI.out.lt ho)
    clear ho
    obtain ⟨vz, rfl, _⟩ := HM.out
    go_wp2
    go_ret
    rw [HQ.out]
    exact HM.out

/-- 'print': the arguments, and where to. -/
def printG {σ T : Type} (g : Gen σ T) (E0 E1 : σ → T × σ) (u : σ) : T × σ :=
  if (g.bl 3 (listG g E0 (g.bl 2 u).1 3 (g.bl 2 u).2).2).1 = 0 then
    (g.nd ⟨21, ((g.bl 2 u).1 : Int), ⟨#[]⟩, (pkG g l7OutL (g.bl 3 (listG g E0 (g.bl 2 u).1 3 (g.bl 2 u).2).2).2).1, []⟩ ((listG g E0 (g.bl 2 u).1 3 (g.bl 2 u).2).1 ++ [(E1 (pkG g l7OutL (g.bl 3 (listG g E0 (g.bl 2 u).1 3 (g.bl 2 u).2).2).2).2).1]), (E1 (pkG g l7OutL (g.bl 3 (listG g E0 (g.bl 2 u).1 3 (g.bl 2 u).2).2).2).2).2)
  else (g.nd (nodeO 21 ((g.bl 2 u).1 : Int)) (listG g E0 (g.bl 2 u).1 3 (g.bl 2 u).2).1, (g.bl 3 (listG g E0 (g.bl 2 u).1 3 (g.bl 2 u).2).2).2)
def simpA {σ T : Type} (g : Gen σ T) (E0 E1 : σ → T × σ) (b : Nat) (t : σ) : T × σ :=
  match b with
  | 0 => printG g E0 E1 t
  | 1 => printG g E0 E1 t
  | 2 => (g.nd (nodeO (piG g [22, 25, 26] t).1 0) [], (piG g [22, 25, 26] t).2)
  | 3 => let o := piG g [23, 24] t; let l := listG g E0 0 1 o.2; (g.nd (nodeO o.1 0) l.1, l.2)
  | 4 => let x := pkG g l2WordL t; let l := listG g E1 0 2 x.2; (g.nd (nodeS 27 x.1) l.1, l.2)
  | 5 => if (g.bl 2 t).1 = 0 then (g.nd (nodeS 34 (pkG g l7NoteL (g.bl 2 t).2).1) [], (pkG g l7NoteL (g.bl 2 t).2).2) else (g.nd (nodeO 20 0) [(E0 (g.bl 2 t).2).1], (E0 (g.bl 2 t).2).2)
  | _ => (g.nd (nodeO 20 0) [(E0 t).1], (E0 t).2)
theorem good_partsN {n : Nd} {w2 : World} {a2 : Option Addr} {qs : List (List Nd)} {m cap2 : Nat} (hm : m = qs.length) (hp : Parts w2.heap.size w2 a2 qs) (hg : ∀ q ∈ qs, Good q) (hl : qs.length ≤ 5) :
    Calls Tryz.prog 198 #[.agg #[.int .i64 n.k, .int .i64 n.op, .string n.s, .string n.t, .slice none 0 0], .slice a2 m cap2] w2 (PgOut (makeT n qs) w2) := by
  subst hm
  exact good_parts hp hg hl
theorem simple_arm {σ T : Type} (g : Gen σ T) (E0 E1 : σ → T × σ) (s : σ) : simpleG g E0 E1 s = simpA g E0 E1 (g.bl 9 s).1 (g.bl 9 s).2 := rfl
structure Sim (B p len cap : Nat) (a : Option Addr) (zs : List Int) (D : Int) (E0 E1 : St → List Nd × St) (k : Nat) : Prop where
  d0 : 0 ≤ D
  d1 : D ≤ 100
  h0 : ExprC B p len cap a zs 146 D E0
  h1 : ExprC B p len cap a zs 146 (D - 1) E1
  s0 : SmE k E0
  s1 : SmE k E1
  hk : k ≤ 5000
variable {D : Int} {E0 E1 : St → List Nd × St} {k : Nat}
theorem Sim.g0 (h : Sim B p len cap a zs D E0 E1 k) (s : St) : Good (E0 s).1 := (h.s0 s).good (by have := h.hk; omega)
theorem Sim.g1 (h : Sim B p len cap a zs D E0 E1 k) (s : St) : Good (E1 s).1 := (h.s1 s).good (by have := h.hk; omega)
set_option maxHeartbeats 1600000 in
theorem simp2 {w : World} {s t : St} (hA : Sim B p len cap a zs D E0 E1 k) (H : In B w p a len cap zs s) (hK : ((exactG zs).bl 9 s).1 = 2) (ht : ((exactG zs).bl 9 s).2 = t) :
    Calls Tryz.prog 347 #[.pointer (some ⟨p, 0, none⟩), .int .i64 D] w (TOut B p a len cap zs (simpA (exactG zs) E0 E1 2 t).1 (simpA (exactG zs) E0 E1 2 t).2 w) := by
  have HA := Lib.hid hA
  have HI := Lib.hid H
  have HK := Lib.hid hK
  have HT := Lib.hid ht
  have d0 := hA.d0
  have d1 := hA.d1
  clear hA H hK ht
  go_enter Tryz.func347, Tryz.ntmps347
  go_wp2_with fail
  refine (bl_ok 9 (by decide) HK.out HI.out).mono ?_
  rintro e w0 ⟨rfl, I0, G0⟩
  rw [HT.out] at I0
  have hZ0 := G0.size
  go_wp2_with fail
  refine (pickInt_lit 3 [22, 25, 26] I0 rfl (by decide) (by decide)).mono ?_
  rintro e w1 ⟨⟨rfl, I1, G1⟩, Z1⟩
  have GG1 := Lib.hid (grown_trans (G0) G1)
  have hZ1 := GG1.out.size
  clear G1
  have HM := Lib.hid (TOut.leaf0 (piG (exactG zs) [22, 25, 26] t).1 ⟨#[]⟩ I1 HI.out.lt (GG1.out))
  go_wp2
  go_ret
  exact HM.out
set_option maxHeartbeats 1600000 in
theorem simp3 {w : World} {s t : St} (hA : Sim B p len cap a zs D E0 E1 k) (H : In B w p a len cap zs s) (hK : ((exactG zs).bl 9 s).1 = 3) (ht : ((exactG zs).bl 9 s).2 = t) :
    Calls Tryz.prog 347 #[.pointer (some ⟨p, 0, none⟩), .int .i64 D] w (TOut B p a len cap zs (simpA (exactG zs) E0 E1 3 t).1 (simpA (exactG zs) E0 E1 3 t).2 w) := by
  have HA := Lib.hid hA
  have HI := Lib.hid H
  have HK := Lib.hid hK
  have HT := Lib.hid ht
  have d0 := hA.d0
  have d1 := hA.d1
  clear hA H hK ht
  go_enter Tryz.func347, Tryz.ntmps347
  go_wp2_with fail
  refine (bl_ok 9 (by decide) HK.out HI.out).mono ?_
  rintro e w0 ⟨rfl, I0, G0⟩
  rw [HT.out] at I0
  have hZ0 := G0.size
  go_wp2_with fail
  refine (pickInt_lit 2 [23, 24] I0 rfl (by decide) (by decide)).mono ?_
  rintro e w1 ⟨⟨rfl, I1, G1⟩, Z1⟩
  have GG1 := Lib.hid (grown_trans (G0) G1)
  have hZ1 := GG1.out.size
  clear G1
  go_wp2_with fail
  refine (list_ok 0 1 _ E0 (by decide) (by decide) HA.out.h0 I1).mono ?_
  rintro e w2 ⟨g2, c2, vs2, rfl, L2, GL2⟩
  have HL2 := Lib.hid L2
  have HGL2 := Lib.hid (grown_trans (GG1.out) GL2)
  have HZ2 := HGL2.out.size
  clear L2 GL2
  go_wp2_with fail
  refine (good_parts (n := nodeO (piG (exactG zs) [23, 24] t).1 0) HL2.out.parts (times_all HA.out.g0 _ _) (Nat.le_trans (list_len zs _ _ _ (by decide) _) (by decide))).mono ?_
  rintro e w3 hmk
  have HM := Lib.hid (TOut.make HL2.out.cur HI.out.lt HGL2.out (Below.refl _ _) hmk)
  clear hmk
  obtain ⟨vz, rfl, _⟩ := HM.out
  go_wp2
  go_ret
  exact HM.out
set_option maxHeartbeats 1600000 in
theorem simp4 {w : World} {s t : St} (hA : Sim B p len cap a zs D E0 E1 k) (H : In B w p a len cap zs s) (hK : ((exactG zs).bl 9 s).1 = 4) (ht : ((exactG zs).bl 9 s).2 = t) :
    Calls Tryz.prog 347 #[.pointer (some ⟨p, 0, none⟩), .int .i64 D] w (TOut B p a len cap zs (simpA (exactG zs) E0 E1 4 t).1 (simpA (exactG zs) E0 E1 4 t).2 w) := by
  have HA := Lib.hid hA
  have HI := Lib.hid H
  have HK := Lib.hid hK
  have HT := Lib.hid ht
  have d0 := hA.d0
  have d1 := hA.d1
  clear hA H hK ht
  go_enter Tryz.func347, Tryz.ntmps347
  go_wp2_with fail
  refine (bl_ok 9 (by decide) HK.out HI.out).mono ?_
  rintro e w0 ⟨rfl, I0, G0⟩
  rw [HT.out] at I0
  have hZ0 := G0.size
  go_wp2_with fail
  refine (word_ok I0).mono ?_
  rintro e w1 ⟨⟨rfl, I1, G1⟩, Z1⟩
  have GG1 := Lib.hid (grown_trans (G0) G1)
  have hZ1 := GG1.out.size
  clear G1
  go_wp2_with fail
  refine (list_ok 0 2 _ E1 (by decide) (by decide) HA.out.h1 I1).mono ?_
  rintro e w2 ⟨g2, c2, vs2, rfl, L2, GL2⟩
  have HL2 := Lib.hid L2
  have HGL2 := Lib.hid (grown_trans (GG1.out) GL2)
  have HZ2 := HGL2.out.size
  clear L2 GL2
  go_wp2_with fail
  refine (good_parts (n := nodeS 27 (pkG (exactG zs) l2WordL t).1) HL2.out.parts (times_all HA.out.g1 _ _) (Nat.le_trans (list_len zs _ _ _ (by decide) _) (by decide))).mono ?_
  rintro e w3 hmk
  have HM := Lib.hid (TOut.make HL2.out.cur HI.out.lt HGL2.out (Below.refl _ _) hmk)
  clear hmk
  obtain ⟨vz, rfl, _⟩ := HM.out
  go_wp2
  go_ret
  exact HM.out
set_option maxHeartbeats 1600000 in
theorem simp5 {w : World} {s t : St} (hA : Sim B p len cap a zs D E0 E1 k) (H : In B w p a len cap zs s) (hK : ((exactG zs).bl 9 s).1 = 5) (ht : ((exactG zs).bl 9 s).2 = t) :
    Calls Tryz.prog 347 #[.pointer (some ⟨p, 0, none⟩), .int .i64 D] w (TOut B p a len cap zs (simpA (exactG zs) E0 E1 5 t).1 (simpA (exactG zs) E0 E1 5 t).2 w) := by
  have HA := Lib.hid hA
  have HI := Lib.hid H
  have HK := Lib.hid hK
  have HT := Lib.hid ht
  have d0 := hA.d0
  have d1 := hA.d1
  clear hA H hK ht
  by_cases hc : ((exactG zs).bl 2 t).1 = 0
  · have HQ := Lib.hid (show simpA (exactG zs) E0 E1 5 t = (leaf 34 (pkG (exactG zs) l7NoteL ((exactG zs).bl 2 t).2).1, (pkG (exactG zs) l7NoteL ((exactG zs).bl 2 t).2).2) from if_pos hc)
    go_enter Tryz.func347, Tryz.ntmps347
    go_wp2_with fail
    refine (bl_ok 9 (by decide) HK.out HI.out).mono ?_
    rintro e w0 ⟨rfl, I0, G0⟩
    rw [HT.out] at I0
    have hZ0 := G0.size
    go_wp2_with fail
    refine (once_yes 2 (by decide) hc I0).mono ?_
    rintro e w1 ⟨rfl, I1, G1⟩
    have GG1 := Lib.hid (grown_trans (G0) G1)
    have hZ1 := GG1.out.size
    clear G1
    go_wp2_with fail
    refine (pick_ok 3 l7NoteL I1 rfl (by decide) (by decide)).mono ?_
    rintro e w2 ⟨⟨rfl, I2, G2⟩, Z2⟩
    have GG2 := Lib.hid (grown_trans (GG1.out) G2)
    have hZ2 := GG2.out.size
    clear G2
    have HM := Lib.hid (TOut.leaf0 34 (pkG (exactG zs) l7NoteL ((exactG zs).bl 2 t).2).1 I2 HI.out.lt (GG2.out))
    go_wp2
    go_ret
    rw [HQ.out]
    exact HM.out
  · have HQ := Lib.hid (show simpA (exactG zs) E0 E1 5 t = (makeT (nodeO 20 0) [(E0 ((exactG zs).bl 2 t).2).1], (E0 ((exactG zs).bl 2 t).2).2) from if_neg hc)
    go_enter Tryz.func347, Tryz.ntmps347
    go_wp2_with fail
    refine (bl_ok 9 (by decide) HK.out HI.out).mono ?_
    rintro e w0 ⟨rfl, I0, G0⟩
    rw [HT.out] at I0
    have hZ0 := G0.size
    go_wp2_with fail
    refine (once_no 2 (by decide) hc I0).mono ?_
    rintro e w1 ⟨rfl, I1, G1⟩
    have GG1 := Lib.hid (grown_trans (G0) G1)
    have hZ1 := GG1.out.size
    clear G1
    go_wp2_with fail
    refine (HA.out.h0 _ _ I1).mono ?_
    rintro e w2 ⟨v2, rfl, T2, I2, G2⟩
    obtain ⟨a2, c2, rfl⟩ := T2.form
    have GG2 := Lib.hid (grown_trans (GG1.out) G2)
    have hZ2 := GG2.out.size
    clear G2
    have X2 := Lib.hid (TR.down T2 (S' := w.heap.size) (by omega) HI.out.lt)
    clear T2
    go_wp2_with fail
    refine (good_parts (n := nodeO 20 0) (parts_of [.slice a2 _ c2] [(E0 ((exactG zs).bl 2 t).2).1] rfl (fun i h _ => by have e0 : i = 0 := (by simpa using h); subst e0; exact X2.out)) (fun q hq => by
        simp only [List.mem_cons, List.not_mem_nil, or_false] at hq
        rcases hq with rfl
        · exact HA.out.g0 _
        ) (by simp)).mono ?_
    rintro e w3 hmk
    have HM := Lib.hid (TOut.make I2 HI.out.lt (GG2.out) ((Below.refl _ _).alloc (Nat.le_refl _) _) hmk)
    clear hmk
    obtain ⟨vz, rfl, _⟩ := HM.out
    go_wp2
    go_ret
    rw [HQ.out]
    exact HM.out
set_option maxHeartbeats 1600000 in
theorem simp6 {w : World} {s t : St} (hA : Sim B p len cap a zs D E0 E1 k) (H : In B w p a len cap zs s) (hK : ((exactG zs).bl 9 s).1 = 6) (ht : ((exactG zs).bl 9 s).2 = t) :
    Calls Tryz.prog 347 #[.pointer (some ⟨p, 0, none⟩), .int .i64 D] w (TOut B p a len cap zs (simpA (exactG zs) E0 E1 6 t).1 (simpA (exactG zs) E0 E1 6 t).2 w) := by
  have HA := Lib.hid hA
  have HI := Lib.hid H
  have HK := Lib.hid hK
  have HT := Lib.hid ht
  have d0 := hA.d0
  have d1 := hA.d1
  clear hA H hK ht
  go_enter Tryz.func347, Tryz.ntmps347
  go_wp2_with fail
  refine (bl_ok 9 (by decide) HK.out HI.out).mono ?_
  rintro e w0 ⟨rfl, I0, G0⟩
  rw [HT.out] at I0
  have hZ0 := G0.size
  go_wp2_with fail
  refine (HA.out.h0 _ _ I0).mono ?_
  rintro e w1 ⟨v1, rfl, T1, I1, G1⟩
  obtain ⟨a1, c1, rfl⟩ := T1.form
  have GG1 := Lib.hid (grown_trans (G0) G1)
  have hZ1 := GG1.out.size
  clear G1
  have X1 := Lib.hid (TR.down T1 (S' := w.heap.size) (by omega) HI.out.lt)
  clear T1
  go_wp2_with fail
  refine (good_parts (n := nodeO 20 0) (parts_of [.slice a1 _ c1] [(E0 t).1] rfl (fun i h _ => by have e0 : i = 0 := (by simpa using h); subst e0; exact X1.out)) (fun q hq => by
      simp only [List.mem_cons, List.not_mem_nil, or_false] at hq
      rcases hq with rfl
      · exact HA.out.g0 _
      ) (by simp)).mono ?_
  rintro e w2 hmk
  have HM := Lib.hid (TOut.make I1 HI.out.lt (GG1.out) ((Below.refl _ _).alloc (Nat.le_refl _) _) hmk)
  clear hmk
  obtain ⟨vz, rfl, _⟩ := HM.out
  go_wp2
  go_ret
  exact HM.out
set_option maxHeartbeats 1600000 in
theorem simp7 {w : World} {s t : St} (hA : Sim B p len cap a zs D E0 E1 k) (H : In B w p a len cap zs s) (hK : ((exactG zs).bl 9 s).1 = 7) (ht : ((exactG zs).bl 9 s).2 = t) :
    Calls Tryz.prog 347 #[.pointer (some ⟨p, 0, none⟩), .int .i64 D] w (TOut B p a len cap zs (simpA (exactG zs) E0 E1 7 t).1 (simpA (exactG zs) E0 E1 7 t).2 w) := by
  have HA := Lib.hid hA
  have HI := Lib.hid H
  have HK := Lib.hid hK
  have HT := Lib.hid ht
  have d0 := hA.d0
  have d1 := hA.d1
  clear hA H hK ht
  go_enter Tryz.func347, Tryz.ntmps347
  go_wp2_with fail
  refine (bl_ok 9 (by decide) HK.out HI.out).mono ?_
  rintro e w0 ⟨rfl, I0, G0⟩
  rw [HT.out] at I0
  have hZ0 := G0.size
  go_wp2_with fail
  refine (HA.out.h0 _ _ I0).mono ?_
  rintro e w1 ⟨v1, rfl, T1, I1, G1⟩
  obtain ⟨a1, c1, rfl⟩ := T1.form
  have GG1 := Lib.hid (grown_trans (G0) G1)
  have hZ1 := GG1.out.size
  clear G1
  have X1 := Lib.hid (TR.down T1 (S' := w.heap.size) (by omega) HI.out.lt)
  clear T1
  go_wp2_with fail
  refine (good_parts (n := nodeO 20 0) (parts_of [.slice a1 _ c1] [(E0 t).1] rfl (fun i h _ => by have e0 : i = 0 := (by simpa using h); subst e0; exact X1.out)) (fun q hq => by
      simp only [List.mem_cons, List.not_mem_nil, or_false] at hq
      rcases hq with rfl
      · exact HA.out.g0 _
      ) (by simp)).mono ?_
  rintro e w2 hmk
  have HM := Lib.hid (TOut.make I1 HI.out.lt (GG1.out) ((Below.refl _ _).alloc (Nat.le_refl _) _) hmk)
  clear hmk
  obtain ⟨vz, rfl, _⟩ := HM.out
  go_wp2
  go_ret
  exact HM.out
set_option maxHeartbeats 1600000 in
theorem simp8 {w : World} {s t : St} (hA : Sim B p len cap a zs D E0 E1 k) (H : In B w p a len cap zs s) (hK : ((exactG zs).bl 9 s).1 = 8) (ht : ((exactG zs).bl 9 s).2 = t) :
    Calls Tryz.prog 347 #[.pointer (some ⟨p, 0, none⟩), .int .i64 D] w (TOut B p a len cap zs (simpA (exactG zs) E0 E1 8 t).1 (simpA (exactG zs) E0 E1 8 t).2 w) := by
  have HA := Lib.hid hA
  have HI := Lib.hid H
  have HK := Lib.hid hK
  have HT := Lib.hid ht
  have d0 := hA.d0
  have d1 := hA.d1
  clear hA H hK ht
  go_enter Tryz.func347, Tryz.ntmps347
  go_wp2_with fail
  refine (bl_ok 9 (by decide) HK.out HI.out).mono ?_
  rintro e w0 ⟨rfl, I0, G0⟩
  rw [HT.out] at I0
  have hZ0 := G0.size
  go_wp2_with fail
  refine (HA.out.h0 _ _ I0).mono ?_
  rintro e w1 ⟨v1, rfl, T1, I1, G1⟩
  obtain ⟨a1, c1, rfl⟩ := T1.form
  have GG1 := Lib.hid (grown_trans (G0) G1)
  have hZ1 := GG1.out.size
  clear G1
  have X1 := Lib.hid (TR.down T1 (S' := w.heap.size) (by omega) HI.out.lt)
  clear T1
  go_wp2_with fail
  refine (good_parts (n := nodeO 20 0) (parts_of [.slice a1 _ c1] [(E0 t).1] rfl (fun i h _ => by have e0 : i = 0 := (by simpa using h); subst e0; exact X1.out)) (fun q hq => by
      simp only [List.mem_cons, List.not_mem_nil, or_false] at hq
      rcases hq with rfl
      · exact HA.out.g0 _
      ) (by simp)).mono ?_
  rintro e w2 hmk
  have HM := Lib.hid (TOut.make I1 HI.out.lt (GG1.out) ((Below.refl _ _).alloc (Nat.le_refl _) _) hmk)
  clear hmk
  obtain ⟨vz, rfl, _⟩ := HM.out
  go_wp2
  go_ret
  exact HM.out
set_option maxRecDepth 20000 in
set_option maxHeartbeats 1600000 in
theorem simp0 {w : World} {s t : St} (hA : Sim B p len cap a zs D E0 E1 k) (H : In B w p a len cap zs s) (hK : ((exactG zs).bl 9 s).1 = 0) (ht : ((exactG zs).bl 9 s).2 = t) :
    Calls Tryz.prog 347 #[.pointer (some ⟨p, 0, none⟩), .int .i64 D] w (TOut B p a len cap zs (simpA (exactG zs) E0 E1 0 t).1 (simpA (exactG zs) E0 E1 0 t).2 w) := by
  have HA := Lib.hid hA
  have HI := Lib.hid H
  have HK := Lib.hid hK
  have HT := Lib.hid ht
  have d0 := hA.d0
  have d1 := hA.d1
  clear hA H hK ht
  obtain ⟨K2, hK2⟩ : ∃ K2, ((exactG zs).bl 2 t).1 = K2 := ⟨_, rfl⟩
  obtain ⟨u, hu⟩ : ∃ u, ((exactG zs).bl 2 t).2 = u := ⟨_, rfl⟩
  have hk2 := exact_lt zs 2 t (by decide)
  rw [hK2] at hk2
  obtain ⟨ql, hql⟩ : ∃ ql, (listG (exactG zs) E0 K2 3 u).1 = ql := ⟨_, rfl⟩
  obtain ⟨x, hx⟩ : ∃ x, (listG (exactG zs) E0 K2 3 u).2 = x := ⟨_, rfl⟩
  have hqn : ql.length ≤ 3 := by rw [← hql]; exact list_len zs _ _ _ (by omega) _
  have hqg : ∀ q ∈ ql, Good q := by rw [← hql]; exact times_all HA.out.g0 _ _
  have HQL := Lib.hid hql
  have HX := Lib.hid hx
  have HK2 := Lib.hid hK2
  have HU := Lib.hid hu
  have HQG := Lib.hid hqg
  clear hK2 hu hql hx hqg
  by_cases hc : ((exactG zs).bl 3 x).1 = 0
  · have HQ := Lib.hid (show simpA (exactG zs) E0 E1 0 t = (makeT ⟨21, (K2 : Int), ⟨#[]⟩, (pkG (exactG zs) l7OutL ((exactG zs).bl 3 x).2).1, []⟩ (ql ++ [(E1 (pkG (exactG zs) l7OutL ((exactG zs).bl 3 x).2).2).1]), (E1 (pkG (exactG zs) l7OutL ((exactG zs).bl 3 x).2).2).2) by
      show printG (exactG zs) E0 E1 t = _
      unfold printG
      rw [HK2.out, HU.out, HX.out, HQL.out, if_pos hc]
      rfl)
    obtain ⟨y, hy⟩ : ∃ y, (pkG (exactG zs) l7OutL ((exactG zs).bl 3 x).2).1 = y := ⟨_, rfl⟩
    obtain ⟨z, hz⟩ : ∃ z, (pkG (exactG zs) l7OutL ((exactG zs).bl 3 x).2).2 = z := ⟨_, rfl⟩
    have HY := Lib.hid hy
    have HZZ := Lib.hid hz
    rw [hy, hz] at HQ
    clear hy hz
    go_enter Tryz.func347, Tryz.ntmps347
    go_wp2_with fail
    refine (bl_ok 9 (by decide) HK.out HI.out).mono ?_
    rintro e w0 ⟨rfl, I0, G0⟩
    rw [HT.out] at I0
    have hZ0 := G0.size
    have hp0 := HI.out.lt
    go_wp2_with fail
    refine (bl_ok 2 (by decide) HK2.out I0).mono ?_
    rintro e w1 ⟨rfl, I1, G1⟩
    rw [HU.out] at I1
    have GG1 := Lib.hid (grown_trans G0 G1)
    have hZ1 := GG1.out.size
    obtain ⟨wb, hwb⟩ : ∃ wb, wb = w1.alloc (.cells #[.int .i64 21, .int .i64 (K2 : Int), .string ⟨#[]⟩, .string ⟨#[]⟩, .slice none 0 0] 60) := ⟨_, rfl⟩
    have HWB := Lib.hid hwb
    have hbb : wb.heap[w1.heap.size]? = some (.cells #[.int .i64 21, .int .i64 (K2 : Int), .string ⟨#[]⟩, .string ⟨#[]⟩, .slice none 0 0] 60 (0, 0)) := by rw [hwb]; exact heap_alloc_new w1 _
    have hsb : wb.heap.size = w1.heap.size + 1 := by rw [hwb]; simp
    have hbw : Below w1.heap.size w1 wb := by rw [hwb]; exact (Below.refl _ _).alloc (Nat.le_refl _) _
    have IB := Lib.hid (I1.keep hbw I1.lt)
    have GB := Lib.hid (grown_below GG1.out (hbw.mono hZ1) rfl)
    have b1 : wb.cell? ⟨w1.heap.size, 1, none⟩ = some (.int .i64 (K2 : Int)) := by rw [cell_of_row _ _ 1 _ _ _ hbb]; rfl
    clear hwb hbw G0 G1
    go_wp2_with fail
    rw [← HWB.out]
    refine (list_ok K2 3 _ E0 (by omega) (by decide) HA.out.h0 IB.out).mono ?_
    rintro e w3 ⟨g3, c3, vs3, he, L3, GL3⟩
    rw [HQL.out] at he L3
    rw [HX.out] at L3
    rw [← L3.ln] at he
    subst he
    have HL3 := Lib.hid L3
    have GG3 := Lib.hid (grown_trans GB.out GL3)
    have hb3 : w3.heap[w1.heap.size]? = some (.cells #[.int .i64 21, .int .i64 (K2 : Int), .string ⟨#[]⟩, .string ⟨#[]⟩, .slice none 0 0] 60 (0, 0)) := by rw [GL3.block _ (by rw [hsb]; omega) (by simp; omega)]; exact hbb
    have HB3 := Lib.hid hb3
    have hZ3 := GL3.size
    clear L3 GL3 b1 hbb hb3
    go_wp2_with fail
    refine (once_yes 3 (by decide) hc HL3.out.cur).mono ?_
    rintro e w4 ⟨rfl, I4, G4⟩
    have HL4 := Lib.hid (HL3.out.next I4 G4)
    have GG4 := Lib.hid (grown_trans GG3.out G4)
    have hb4 : w4.heap[w1.heap.size]? = some (.cells #[.int .i64 21, .int .i64 (K2 : Int), .string ⟨#[]⟩, .string ⟨#[]⟩, .slice none 0 0] 60 (0, 0)) := by rw [G4.block _ (by omega) (by simp; omega)]; exact HB3.out
    have HB4 := Lib.hid hb4
    have hZ4 := G4.size
    clear G4 hb4
    go_wp2_with fail
    refine (pick_ok 3 l7OutL I4 rfl (by decide) (by decide)).mono ?_
    rintro e w5 ⟨⟨he, I5, G5⟩, Z5⟩
    rw [HY.out] at he
    rw [HZZ.out] at I5
    subst he
    have HL5 := Lib.hid (HL4.out.next I5 G5)
    have GG5 := Lib.hid (grown_trans GG4.out G5)
    have hb5 : w5.heap[w1.heap.size]? = some (.cells #[.int .i64 21, .int .i64 (K2 : Int), .string ⟨#[]⟩, .string ⟨#[]⟩, .slice none 0 0] 60 (0, 0)) := by rw [G5.block _ (by omega) (by simp; omega)]; exact HB4.out
    have y5 : w5.cell? ⟨w1.heap.size, 3, none⟩ = some (.string ⟨#[]⟩) := by rw [cell_of_row _ _ 3 _ _ _ hb5]; rfl
    have f5 : w5.frozen? ⟨w1.heap.size, 3, none⟩ = false := frozen_of_row _ _ 3 _ _ hb5
    have hZ5 := G5.size
    obtain ⟨w6, hw6⟩ : ∃ w6, w6 = w5.setCell ⟨w1.heap.size, 3, none⟩ (.string y) := ⟨_, rfl⟩
    have HW6 := Lib.hid hw6
    have HL6 := Lib.hid (show LS B p len cap a zs wb.heap.size g3 c3 vs3 ql z w6 by rw [hw6]; exact HL5.out.set _ 3 _ (by omega) (by omega))
    have hb6 : w6.heap[w1.heap.size]? = some (.cells #[.int .i64 21, .int .i64 (K2 : Int), .string ⟨#[]⟩, .string y, .slice none 0 0] 60 (0, 0)) := by rw [hw6]; exact heap_setCell_same _ _ 3 _ _ _ hb5
    have GG6 := Lib.hid (show w.grownBy w6 (some p) by rw [hw6]; exact grown_below GG5.out ((Below.refl w.heap.size w5).setCell (p := ⟨w1.heap.size, 3, none⟩) hZ1 _) rfl)
    have HB6 := Lib.hid hb6
    have hZ6 : w6.heap.size = w5.heap.size := by rw [hw6]; simp [World.setCell]
    clear G5 hb5 hw6 hb6 I5 I4
    go_wp2_with fail
    rw [← HW6.out]
    refine (HA.out.h1 _ _ HL6.out.cur).mono ?_
    rintro e w7 ⟨u7, rfl, T7, I7, G7⟩
    obtain ⟨a7, c7, rfl⟩ := T7.form
    have HT7 := Lib.hid T7
    have HL7 := Lib.hid (HL6.out.next I7 G7)
    have GG7 := Lib.hid (grown_trans GG6.out G7)
    have hb7 : w7.heap[w1.heap.size]? = some (.cells #[.int .i64 21, .int .i64 (K2 : Int), .string ⟨#[]⟩, .string y, .slice none 0 0] 60 (0, 0)) := by rw [G7.block _ (by omega) (by simp; omega)]; exact HB6.out
    have HB7 := Lib.hid hb7
    have hZ7 := G7.size
    have HG3 := Lib.hid HL6.out.g_lt
    have hvn : vs3.length ≤ 3 := by have := HL7.out.ln; omega
    clear T7 I7 G7 hb7 y5 f5
    go_wp2_with (refine wpList_append_tree _ _ rfl _ _ rfl wb.heap.size (.slice (some ⟨g3, 0, none⟩) vs3.length c3) vs3 rfl HL7.out.own rfl rfl (by omega) HL7.out.lw ?_; intro g8 c8 w8 own8 gr8 or8; have HL8 := Lib.hid (HL7.out.push HT7.out HG3.out.2 own8 gr8 (or8.imp (fun e => by simpa [Value.ownBlock] using e) id)); have GG8 := Lib.hid (HL7.out.grown GG7.out (by omega) gr8); have hb8 : w8.heap[w1.heap.size]? = some (.cells #[.int .i64 21, .int .i64 (K2 : Int), .string ⟨#[]⟩, .string y, .slice none 0 0] 60 (0, 0)) := (gr8.block _ (by omega) (by have := HG3.out.1; simp [Value.ownBlock]; omega)).trans HB7.out; have k0 : w8.cell? ⟨w1.heap.size, 0, none⟩ = some (.int .i64 21) := (cell_of_row _ _ 0 _ _ _ hb8).trans rfl; have k1 : w8.cell? ⟨w1.heap.size, 1, none⟩ = some (.int .i64 (K2 : Int)) := (cell_of_row _ _ 1 _ _ _ hb8).trans rfl; have k2 : w8.cell? ⟨w1.heap.size, 2, none⟩ = some (.string ⟨#[]⟩) := (cell_of_row _ _ 2 _ _ _ hb8).trans rfl; have k3 : w8.cell? ⟨w1.heap.size, 3, none⟩ = some (.string y) := (cell_of_row _ _ 3 _ _ _ hb8).trans rfl; have k4 : w8.cell? ⟨w1.heap.size, 4, none⟩ = some (.slice none 0 0) := (cell_of_row _ _ 4 _ _ _ hb8).trans rfl)
    refine (good_partsN (n := ⟨21, (K2 : Int), ⟨#[]⟩, y, []⟩) (qs := ql ++ [(E1 z).1]) (by have := HL7.out.ln; simp; omega) HL8.out.parts (fun q hq => by
      rcases List.mem_append.1 hq with h | h
      · exact HQG.out q h
      · rw [List.mem_singleton] at h; rw [h]; exact HA.out.g1 _) (by simp; omega)).mono ?_
    rintro e w9 hmk
    have HM := Lib.hid (TOut.make HL8.out.cur HI.out.lt GG8.out (Below.refl _ _) hmk)
    clear hmk
    obtain ⟨vz, rfl, _⟩ := HM.out
    go_wp2
    go_ret
    rw [HQ.out]
    exact HM.out
  · have HQ := Lib.hid (show simpA (exactG zs) E0 E1 0 t = (makeT (nodeO 21 (K2 : Int)) ql, ((exactG zs).bl 3 x).2) by
      show printG (exactG zs) E0 E1 t = _
      unfold printG
      rw [HK2.out, HU.out, HX.out, HQL.out, if_neg hc]
      rfl)
    go_enter Tryz.func347, Tryz.ntmps347
    go_wp2_with fail
    refine (bl_ok 9 (by decide) HK.out HI.out).mono ?_
    rintro e w0 ⟨rfl, I0, G0⟩
    rw [HT.out] at I0
    have hZ0 := G0.size
    have hp0 := HI.out.lt
    go_wp2_with fail
    refine (bl_ok 2 (by decide) HK2.out I0).mono ?_
    rintro e w1 ⟨rfl, I1, G1⟩
    rw [HU.out] at I1
    have GG1 := Lib.hid (grown_trans G0 G1)
    have hZ1 := GG1.out.size
    obtain ⟨wb, hwb⟩ : ∃ wb, wb = w1.alloc (.cells #[.int .i64 21, .int .i64 (K2 : Int), .string ⟨#[]⟩, .string ⟨#[]⟩, .slice none 0 0] 60) := ⟨_, rfl⟩
    have HWB := Lib.hid hwb
    have hbb : wb.heap[w1.heap.size]? = some (.cells #[.int .i64 21, .int .i64 (K2 : Int), .string ⟨#[]⟩, .string ⟨#[]⟩, .slice none 0 0] 60 (0, 0)) := by rw [hwb]; exact heap_alloc_new w1 _
    have hsb : wb.heap.size = w1.heap.size + 1 := by rw [hwb]; simp
    have hbw : Below w1.heap.size w1 wb := by rw [hwb]; exact (Below.refl _ _).alloc (Nat.le_refl _) _
    have IB := Lib.hid (I1.keep hbw I1.lt)
    have GB := Lib.hid (grown_below GG1.out (hbw.mono hZ1) rfl)
    have b1 : wb.cell? ⟨w1.heap.size, 1, none⟩ = some (.int .i64 (K2 : Int)) := by rw [cell_of_row _ _ 1 _ _ _ hbb]; rfl
    clear hwb hbw G0 G1
    go_wp2_with fail
    rw [← HWB.out]
    refine (list_ok K2 3 _ E0 (by omega) (by decide) HA.out.h0 IB.out).mono ?_
    rintro e w3 ⟨g3, c3, vs3, he, L3, GL3⟩
    rw [HQL.out] at he L3
    rw [HX.out] at L3
    subst he
    have HL3 := Lib.hid L3
    have GG3 := Lib.hid (grown_trans GB.out GL3)
    have hb3 : w3.heap[w1.heap.size]? = some (.cells #[.int .i64 21, .int .i64 (K2 : Int), .string ⟨#[]⟩, .string ⟨#[]⟩, .slice none 0 0] 60 (0, 0)) := by rw [GL3.block _ (by rw [hsb]; omega) (by simp; omega)]; exact hbb
    have HB3 := Lib.hid hb3
    have hZ3 := GL3.size
    clear L3 GL3 b1 hbb hb3
    go_wp2_with fail
    refine (once_no 3 (by decide) hc HL3.out.cur).mono ?_
    rintro e w4 ⟨rfl, I4, G4⟩
    have HL4 := Lib.hid (HL3.out.next I4 G4)
    have GG4 := Lib.hid (grown_trans GG3.out G4)
    have hb4 : w4.heap[w1.heap.size]? = some (.cells #[.int .i64 21, .int .i64 (K2 : Int), .string ⟨#[]⟩, .string ⟨#[]⟩, .slice none 0 0] 60 (0, 0)) := by rw [G4.block _ (by omega) (by simp; omega)]; exact HB3.out
    have HB4 := Lib.hid hb4
    have hZ4 := G4.size
    have k0 : w4.cell? ⟨w1.heap.size, 0, none⟩ = some (.int .i64 21) := (cell_of_row _ _ 0 _ _ _ hb4).trans rfl
    have k1 : w4.cell? ⟨w1.heap.size, 1, none⟩ = some (.int .i64 (K2 : Int)) := (cell_of_row _ _ 1 _ _ _ hb4).trans rfl
    have k2 : w4.cell? ⟨w1.heap.size, 2, none⟩ = some (.string ⟨#[]⟩) := (cell_of_row _ _ 2 _ _ _ hb4).trans rfl
    have k3 : w4.cell? ⟨w1.heap.size, 3, none⟩ = some (.string ⟨#[]⟩) := (cell_of_row _ _ 3 _ _ _ hb4).trans rfl
    have k4 : w4.cell? ⟨w1.heap.size, 4, none⟩ = some (.slice none 0 0) := (cell_of_row _ _ 4 _ _ _ hb4).trans rfl
    clear G4 hb4 I4
    go_wp2_with fail
    refine (good_parts (n := nodeO 21 (K2 : Int)) HL4.out.parts HQG.out (by omega)).mono ?_
    rintro e w9 hmk
    have HM := Lib.hid (TOut.make HL4.out.cur HI.out.lt GG4.out (Below.refl _ _) hmk)
    clear hmk
    obtain ⟨vz, rfl, _⟩ := HM.out
    go_wp2
    go_ret
    rw [HQ.out]
    exact HM.out
set_option maxRecDepth 20000 in
set_option maxHeartbeats 1600000 in
theorem simp1 {w : World} {s t : St} (hA : Sim B p len cap a zs D E0 E1 k) (H : In B w p a len cap zs s) (hK : ((exactG zs).bl 9 s).1 = 1) (ht : ((exactG zs).bl 9 s).2 = t) :
    Calls Tryz.prog 347 #[.pointer (some ⟨p, 0, none⟩), .int .i64 D] w (TOut B p a len cap zs (simpA (exactG zs) E0 E1 1 t).1 (simpA (exactG zs) E0 E1 1 t).2 w) := by
  have HA := Lib.hid hA
  have HI := Lib.hid H
  have HK := Lib.hid hK
  have HT := Lib.hid ht
  have d0 := hA.d0
  have d1 := hA.d1
  clear hA H hK ht
  obtain ⟨K2, hK2⟩ : ∃ K2, ((exactG zs).bl 2 t).1 = K2 := ⟨_, rfl⟩
  obtain ⟨u, hu⟩ : ∃ u, ((exactG zs).bl 2 t).2 = u := ⟨_, rfl⟩
  have hk2 := exact_lt zs 2 t (by decide)
  rw [hK2] at hk2
  obtain ⟨ql, hql⟩ : ∃ ql, (listG (exactG zs) E0 K2 3 u).1 = ql := ⟨_, rfl⟩
  obtain ⟨x, hx⟩ : ∃ x, (listG (exactG zs) E0 K2 3 u).2 = x := ⟨_, rfl⟩
  have hqn : ql.length ≤ 3 := by rw [← hql]; exact list_len zs _ _ _ (by omega) _
  have hqg : ∀ q ∈ ql, Good q := by rw [← hql]; exact times_all HA.out.g0 _ _
  have HQL := Lib.hid hql
  have HX := Lib.hid hx
  have HK2 := Lib.hid hK2
  have HU := Lib.hid hu
  have HQG := Lib.hid hqg
  clear hK2 hu hql hx hqg
  by_cases hc : ((exactG zs).bl 3 x).1 = 0
  · have HQ := Lib.hid (show simpA (exactG zs) E0 E1 1 t = (makeT ⟨21, (K2 : Int), ⟨#[]⟩, (pkG (exactG zs) l7OutL ((exactG zs).bl 3 x).2).1, []⟩ (ql ++ [(E1 (pkG (exactG zs) l7OutL ((exactG zs).bl 3 x).2).2).1]), (E1 (pkG (exactG zs) l7OutL ((exactG zs).bl 3 x).2).2).2) by
      show printG (exactG zs) E0 E1 t = _
      unfold printG
      rw [HK2.out, HU.out, HX.out, HQL.out, if_pos hc]
      rfl)
    obtain ⟨y, hy⟩ : ∃ y, (pkG (exactG zs) l7OutL ((exactG zs).bl 3 x).2).1 = y := ⟨_, rfl⟩
    obtain ⟨z, hz⟩ : ∃ z, (pkG (exactG zs) l7OutL ((exactG zs).bl 3 x).2).2 = z := ⟨_, rfl⟩
    have HY := Lib.hid hy
    have HZZ := Lib.hid hz
    rw [hy, hz] at HQ
    clear hy hz
    go_enter Tryz.func347, Tryz.ntmps347
    go_wp2_with fail
    refine (bl_ok 9 (by decide) HK.out HI.out).mono ?_
    rintro e w0 ⟨rfl, I0, G0⟩
    rw [HT.out] at I0
    have hZ0 := G0.size
    have hp0 := HI.out.lt
    go_wp2_with fail
    refine (bl_ok 2 (by decide) HK2.out I0).mono ?_
    rintro e w1 ⟨rfl, I1, G1⟩
    rw [HU.out] at I1
    have GG1 := Lib.hid (grown_trans G0 G1)
    have hZ1 := GG1.out.size
    obtain ⟨wb, hwb⟩ : ∃ wb, wb = w1.alloc (.cells #[.int .i64 21, .int .i64 (K2 : Int), .string ⟨#[]⟩, .string ⟨#[]⟩, .slice none 0 0] 60) := ⟨_, rfl⟩
    have HWB := Lib.hid hwb
    have hbb : wb.heap[w1.heap.size]? = some (.cells #[.int .i64 21, .int .i64 (K2 : Int), .string ⟨#[]⟩, .string ⟨#[]⟩, .slice none 0 0] 60 (0, 0)) := by rw [hwb]; exact heap_alloc_new w1 _
    have hsb : wb.heap.size = w1.heap.size + 1 := by rw [hwb]; simp
    have hbw : Below w1.heap.size w1 wb := by rw [hwb]; exact (Below.refl _ _).alloc (Nat.le_refl _) _
    have IB := Lib.hid (I1.keep hbw I1.lt)
    have GB := Lib.hid (grown_below GG1.out (hbw.mono hZ1) rfl)
    have b1 : wb.cell? ⟨w1.heap.size, 1, none⟩ = some (.int .i64 (K2 : Int)) := by rw [cell_of_row _ _ 1 _ _ _ hbb]; rfl
    clear hwb hbw G0 G1
    go_wp2_with fail
    rw [← HWB.out]
    refine (list_ok K2 3 _ E0 (by omega) (by decide) HA.out.h0 IB.out).mono ?_
    rintro e w3 ⟨g3, c3, vs3, he, L3, GL3⟩
    rw [HQL.out] at he L3
    rw [HX.out] at L3
    rw [← L3.ln] at he
    subst he
    have HL3 := Lib.hid L3
    have GG3 := Lib.hid (grown_trans GB.out GL3)
    have hb3 : w3.heap[w1.heap.size]? = some (.cells #[.int .i64 21, .int .i64 (K2 : Int), .string ⟨#[]⟩, .string ⟨#[]⟩, .slice none 0 0] 60 (0, 0)) := by rw [GL3.block _ (by rw [hsb]; omega) (by simp; omega)]; exact hbb
    have HB3 := Lib.hid hb3
    have hZ3 := GL3.size
    clear L3 GL3 b1 hbb hb3
    go_wp2_with fail
    refine (once_yes 3 (by decide) hc HL3.out.cur).mono ?_
    rintro e w4 ⟨rfl, I4, G4⟩
    have HL4 := Lib.hid (HL3.out.next I4 G4)
    have GG4 := Lib.hid (grown_trans GG3.out G4)
    have hb4 : w4.heap[w1.heap.size]? = some (.cells #[.int .i64 21, .int .i64 (K2 : Int), .string ⟨#[]⟩, .string ⟨#[]⟩, .slice none 0 0] 60 (0, 0)) := by rw [G4.block _ (by omega) (by simp; omega)]; exact HB3.out
    have HB4 := Lib.hid hb4
    have hZ4 := G4.size
    clear G4 hb4
    go_wp2_with fail
    refine (pick_ok 3 l7OutL I4 rfl (by decide) (by decide)).mono ?_
    rintro e w5 ⟨⟨he, I5, G5⟩, Z5⟩
    rw [HY.out] at he
    rw [HZZ.out] at I5
    subst he
    have HL5 := Lib.hid (HL4.out.next I5 G5)
    have GG5 := Lib.hid (grown_trans GG4.out G5)
    have hb5 : w5.heap[w1.heap.size]? = some (.cells #[.int .i64 21, .int .i64 (K2 : Int), .string ⟨#[]⟩, .string ⟨#[]⟩, .slice none 0 0] 60 (0, 0)) := by rw [G5.block _ (by omega) (by simp; omega)]; exact HB4.out
    have y5 : w5.cell? ⟨w1.heap.size, 3, none⟩ = some (.string ⟨#[]⟩) := by rw [cell_of_row _ _ 3 _ _ _ hb5]; rfl
    have f5 : w5.frozen? ⟨w1.heap.size, 3, none⟩ = false := frozen_of_row _ _ 3 _ _ hb5
    have hZ5 := G5.size
    obtain ⟨w6, hw6⟩ : ∃ w6, w6 = w5.setCell ⟨w1.heap.size, 3, none⟩ (.string y) := ⟨_, rfl⟩
    have HW6 := Lib.hid hw6
    have HL6 := Lib.hid (show LS B p len cap a zs wb.heap.size g3 c3 vs3 ql z w6 by rw [hw6]; exact HL5.out.set _ 3 _ (by omega) (by omega))
    have hb6 : w6.heap[w1.heap.size]? = some (.cells #[.int .i64 21, .int .i64 (K2 : Int), .string ⟨#[]⟩, .string y, .slice none 0 0] 60 (0, 0)) := by rw [hw6]; exact heap_setCell_same _ _ 3 _ _ _ hb5
    have GG6 := Lib.hid (show w.grownBy w6 (some p) by rw [hw6]; exact grown_below GG5.out ((Below.refl w.heap.size w5).setCell (p := ⟨w1.heap.size, 3, none⟩) hZ1 _) rfl)
    have HB6 := Lib.hid hb6
    have hZ6 : w6.heap.size = w5.heap.size := by rw [hw6]; simp [World.setCell]
    clear G5 hb5 hw6 hb6 I5 I4
    go_wp2_with fail
    rw [← HW6.out]
    refine (HA.out.h1 _ _ HL6.out.cur).mono ?_
    rintro e w7 ⟨u7, rfl, T7, I7, G7⟩
    obtain ⟨a7, c7, rfl⟩ := T7.form
    have HT7 := Lib.hid T7
    have HL7 := Lib.hid (HL6.out.next I7 G7)
    have GG7 := Lib.hid (grown_trans GG6.out G7)
    have hb7 : w7.heap[w1.heap.size]? = some (.cells #[.int .i64 21, .int .i64 (K2 : Int), .string ⟨#[]⟩, .string y, .slice none 0 0] 60 (0, 0)) := by rw [G7.block _ (by omega) (by simp; omega)]; exact HB6.out
    have HB7 := Lib.hid hb7
    have hZ7 := G7.size
    have HG3 := Lib.hid HL6.out.g_lt
    have hvn : vs3.length ≤ 3 := by have := HL7.out.ln; omega
    clear T7 I7 G7 hb7 y5 f5
    go_wp2_with (refine wpList_append_tree _ _ rfl _ _ rfl wb.heap.size (.slice (some ⟨g3, 0, none⟩) vs3.length c3) vs3 rfl HL7.out.own rfl rfl (by omega) HL7.out.lw ?_; intro g8 c8 w8 own8 gr8 or8; have HL8 := Lib.hid (HL7.out.push HT7.out HG3.out.2 own8 gr8 (or8.imp (fun e => by simpa [Value.ownBlock] using e) id)); have GG8 := Lib.hid (HL7.out.grown GG7.out (by omega) gr8); have hb8 : w8.heap[w1.heap.size]? = some (.cells #[.int .i64 21, .int .i64 (K2 : Int), .string ⟨#[]⟩, .string y, .slice none 0 0] 60 (0, 0)) := (gr8.block _ (by omega) (by have := HG3.out.1; simp [Value.ownBlock]; omega)).trans HB7.out; have k0 : w8.cell? ⟨w1.heap.size, 0, none⟩ = some (.int .i64 21) := (cell_of_row _ _ 0 _ _ _ hb8).trans rfl; have k1 : w8.cell? ⟨w1.heap.size, 1, none⟩ = some (.int .i64 (K2 : Int)) := (cell_of_row _ _ 1 _ _ _ hb8).trans rfl; have k2 : w8.cell? ⟨w1.heap.size, 2, none⟩ = some (.string ⟨#[]⟩) := (cell_of_row _ _ 2 _ _ _ hb8).trans rfl; have k3 : w8.cell? ⟨w1.heap.size, 3, none⟩ = some (.string y) := (cell_of_row _ _ 3 _ _ _ hb8).trans rfl; have k4 : w8.cell? ⟨w1.heap.size, 4, none⟩ = some (.slice none 0 0) := (cell_of_row _ _ 4 _ _ _ hb8).trans rfl)
    refine (good_partsN (n := ⟨21, (K2 : Int), ⟨#[]⟩, y, []⟩) (qs := ql ++ [(E1 z).1]) (by have := HL7.out.ln; simp; omega) HL8.out.parts (fun q hq => by
      rcases List.mem_append.1 hq with h | h
      · exact HQG.out q h
      · rw [List.mem_singleton] at h; rw [h]; exact HA.out.g1 _) (by simp; omega)).mono ?_
    rintro e w9 hmk
    have HM := Lib.hid (TOut.make HL8.out.cur HI.out.lt GG8.out (Below.refl _ _) hmk)
    clear hmk
    obtain ⟨vz, rfl, _⟩ := HM.out
    go_wp2
    go_ret
    rw [HQ.out]
    exact HM.out
  · have HQ := Lib.hid (show simpA (exactG zs) E0 E1 1 t = (makeT (nodeO 21 (K2 : Int)) ql, ((exactG zs).bl 3 x).2) by
      show printG (exactG zs) E0 E1 t = _
      unfold printG
      rw [HK2.out, HU.out, HX.out, HQL.out, if_neg hc]
      rfl)
    go_enter Tryz.func347, Tryz.ntmps347
    go_wp2_with fail
    refine (bl_ok 9 (by decide) HK.out HI.out).mono ?_
    rintro e w0 ⟨rfl, I0, G0⟩
    rw [HT.out] at I0
    have hZ0 := G0.size
    have hp0 := HI.out.lt
    go_wp2_with fail
    refine (bl_ok 2 (by decide) HK2.out I0).mono ?_
    rintro e w1 ⟨rfl, I1, G1⟩
    rw [HU.out] at I1
    have GG1 := Lib.hid (grown_trans G0 G1)
    have hZ1 := GG1.out.size
    obtain ⟨wb, hwb⟩ : ∃ wb, wb = w1.alloc (.cells #[.int .i64 21, .int .i64 (K2 : Int), .string ⟨#[]⟩, .string ⟨#[]⟩, .slice none 0 0] 60) := ⟨_, rfl⟩
    have HWB := Lib.hid hwb
    have hbb : wb.heap[w1.heap.size]? = some (.cells #[.int .i64 21, .int .i64 (K2 : Int), .string ⟨#[]⟩, .string ⟨#[]⟩, .slice none 0 0] 60 (0, 0)) := by rw [hwb]; exact heap_alloc_new w1 _
    have hsb : wb.heap.size = w1.heap.size + 1 := by rw [hwb]; simp
    have hbw : Below w1.heap.size w1 wb := by rw [hwb]; exact (Below.refl _ _).alloc (Nat.le_refl _) _
    have IB := Lib.hid (I1.keep hbw I1.lt)
    have GB := Lib.hid (grown_below GG1.out (hbw.mono hZ1) rfl)
    have b1 : wb.cell? ⟨w1.heap.size, 1, none⟩ = some (.int .i64 (K2 : Int)) := by rw [cell_of_row _ _ 1 _ _ _ hbb]; rfl
    clear hwb hbw G0 G1
    go_wp2_with fail
    rw [← HWB.out]
    refine (list_ok K2 3 _ E0 (by omega) (by decide) HA.out.h0 IB.out).mono ?_
    rintro e w3 ⟨g3, c3, vs3, he, L3, GL3⟩
    rw [HQL.out] at he L3
    rw [HX.out] at L3
    subst he
    have HL3 := Lib.hid L3
    have GG3 := Lib.hid (grown_trans GB.out GL3)
    have hb3 : w3.heap[w1.heap.size]? = some (.cells #[.int .i64 21, .int .i64 (K2 : Int), .string ⟨#[]⟩, .string ⟨#[]⟩, .slice none 0 0] 60 (0, 0)) := by rw [GL3.block _ (by rw [hsb]; omega) (by simp; omega)]; exact hbb
    have HB3 := Lib.hid hb3
    have hZ3 := GL3.size
    clear L3 GL3 b1 hbb hb3
    go_wp2_with fail
    refine (once_no 3 (by decide) hc HL3.out.cur).mono ?_
    rintro e w4 ⟨rfl, I4, G4⟩
    have HL4 := Lib.hid (HL3.out.next I4 G4)
    have GG4 := Lib.hid (grown_trans GG3.out G4)
    have hb4 : w4.heap[w1.heap.size]? = some (.cells #[.int .i64 21, .int .i64 (K2 : Int), .string ⟨#[]⟩, .string ⟨#[]⟩, .slice none 0 0] 60 (0, 0)) := by rw [G4.block _ (by omega) (by simp; omega)]; exact HB3.out
    have HB4 := Lib.hid hb4
    have hZ4 := G4.size
    have k0 : w4.cell? ⟨w1.heap.size, 0, none⟩ = some (.int .i64 21) := (cell_of_row _ _ 0 _ _ _ hb4).trans rfl
    have k1 : w4.cell? ⟨w1.heap.size, 1, none⟩ = some (.int .i64 (K2 : Int)) := (cell_of_row _ _ 1 _ _ _ hb4).trans rfl
    have k2 : w4.cell? ⟨w1.heap.size, 2, none⟩ = some (.string ⟨#[]⟩) := (cell_of_row _ _ 2 _ _ _ hb4).trans rfl
    have k3 : w4.cell? ⟨w1.heap.size, 3, none⟩ = some (.string ⟨#[]⟩) := (cell_of_row _ _ 3 _ _ _ hb4).trans rfl
    have k4 : w4.cell? ⟨w1.heap.size, 4, none⟩ = some (.slice none 0 0) := (cell_of_row _ _ 4 _ _ _ hb4).trans rfl
    clear G4 hb4 I4
    go_wp2_with fail
    refine (good_parts (n := nodeO 21 (K2 : Int)) HL4.out.parts HQG.out (by omega)).mono ?_
    rintro e w9 hmk
    have HM := Lib.hid (TOut.make HL4.out.cur HI.out.lt GG4.out (Below.refl _ _) hmk)
    clear hmk
    obtain ⟨vz, rfl, _⟩ := HM.out
    go_wp2
    go_ret
    rw [HQ.out]
    exact HM.out
theorem simple_ok (hA : Sim B p len cap a zs D E0 E1 k) : ExprC B p len cap a zs 347 D (simpleG (exactG zs) E0 E1) := by
  intro w s H
  obtain ⟨K, hK⟩ : ∃ K, ((exactG zs).bl 9 s).1 = K := ⟨_, rfl⟩
  obtain ⟨t, ht⟩ : ∃ t, ((exactG zs).bl 9 s).2 = t := ⟨_, rfl⟩
  have hb := exact_lt zs 9 s (by decide)
  rw [simple_arm, hK, ht]
  rw [hK] at hb
  rcases (show K = 0 ∨ K = 1 ∨ K = 2 ∨ K = 3 ∨ K = 4 ∨ K = 5 ∨ K = 6 ∨ K = 7 ∨ K = 8 by omega) with rfl | rfl | rfl | rfl | rfl | rfl | rfl | rfl | rfl
  · exact simp0 hA H hK ht
  · exact simp1 hA H hK ht
  · exact simp2 hA H hK ht
  · exact simp3 hA H hK ht
  · exact simp4 hA H hK ht
  · exact simp5 hA H hK ht
  · exact simp6 hA H hK ht
  · exact simp7 hA H hK ht
  · exact simp8 hA H hK ht
theorem simple_small {k : Nat} (zs : List Int) {E0 E1 : St → List Nd × St} (h0 : SmE k E0) (h1 : SmE k E1) : SmE (1 + 4 * k) (simpleG (exactG zs) E0 E1) := by
  intro s
  rw [simple_arm]
  have hp : ∀ t, Small (1 + 4 * k) (printG (exactG zs) E0 E1 t).1 := by
    intro t
    have h2 := exact_lt zs 2 t (by decide)
    obtain ⟨l1, l2⟩ := list_small zs h0 ((exactG zs).bl 2 t).1 3 (by omega) ((exactG zs).bl 2 t).2
    unfold printG
    split
    · refine sm_list (m := 4) _ ⟨fun q hq => ?_, by simp; omega⟩ (by decide)
      rcases List.mem_append.1 hq with h | h
      · exact l1 q h
      · rw [List.mem_singleton] at h; rw [h]; exact h1 _
    · exact (sm_list (m := 3) _ ⟨l1, l2⟩ (by decide)).mono (by omega)
  generalize ((exactG zs).bl 9 s).1 = b
  generalize ((exactG zs).bl 9 s).2 = t
  rcases b with _ | _ | _ | _ | _ | _ | b
  · exact hp t
  · exact hp t
  · exact (sm0 _).mono (by omega)
  · exact (sm_list _ (list_small zs h0 0 1 (by omega) _) (by decide)).mono (by omega)
  · exact (sm_list _ (list_small zs h1 0 2 (by omega) _) (by decide)).mono (by omega)
  · show Small _ (if ((exactG zs).bl 2 t).1 = 0 then _ else _ : List Nd × St).1
    split
    · exact (sm0 _).mono (by omega)
    · exact (sm1 _ (h0 _)).mono (by omega)
  · exact (sm1 _ (h0 _)).mono (by omega)
theorem maybe_small {k : Nat} (zs : List Int) {E : St → List Nd × St} (h : SmE k E) : SmE (1 + k) (maybeG (exactG zs) E) := by
  intro s
  unfold maybeG
  split
  · exact (sm0 _).mono (by omega)
  · exact (h _).mono (by omega)
end
end Go.Proofs.YtiilpnoaocfjgaaGreatDoor.draw

namespace Go.Proofs.YtiilpnoaocfjgaaGreatDoor.draw
open Go.ChangeShapes Go.WideShapes Go.ChangeAt Go.RowKit
open nd
set_option linter.unusedVariables false
set_option maxRecDepth 20000

section
variable {B p len cap : Nat} {a : Option Addr} {zs : List Int}
set_option maxHeartbeats 1600000 in
theorem block_ok {D : Int} {S : St → List Nd × St} {k : Nat} (hD : -100 ≤ D ∧ D ≤ 100) (h1 : ExprC B p len cap a zs 307 D S) (hs : SmE k S) (hk : k ≤ 20000) : ExprC B p len cap a zs 348 D (blockG (exactG zs) S) := by
  intro w s H
  have HI := Lib.hid H
  have H1 := Lib.hid h1
  have HS := Lib.hid hs
  have hb := exact_lt zs 3 s (by decide)
  obtain ⟨N, hN⟩ : ∃ N, ((exactG zs).bl 3 s).1 = N := ⟨_, rfl⟩
  obtain ⟨t, ht⟩ : ∃ t, ((exactG zs).bl 3 s).2 = t := ⟨_, rfl⟩
  rw [hN] at hb
  have HN := Lib.hid hN
  have HT := Lib.hid ht
  have HQ := Lib.hid (show blockG (exactG zs) S s = (makeT (nodeO 33 0) (timesG S N t).1, (timesG S N t).2) by unfold blockG; rw [hN, ht]; rfl)
  have HP := HI.out.lt
  clear H h1 hs hN ht
  go_enter Tryz.func348, Tryz.ntmps348
  have L0 := Lib.hid (LS.start HI.out (Nat.le_refl _) HP)
  have HG0 := Lib.hid (grown_below (p := p) grown_refl ((Below.refl w.heap.size w).alloc (Nat.le_refl _) (.cells #[] 29)) rfl)
  go_wp2_with fail
  refine (bl_ok 3 (by decide) HN.out L0.out.cur).mono ?_
  rintro e w1 ⟨rfl, I1, G1⟩
  rw [HT.out] at I1
  have L1 := Lib.hid (L0.out.next I1 G1)
  have HG1 := Lib.hid (grown_trans HG0.out G1)
  clear I1 G1
  go_wp2
  go_loopw [5, 6] (fun v n wr => RelList B p len cap a zs w S N t v n wr) (fun _ n _ => (intOf n).toNat)
  case atStart => exact ⟨0, w.heap.size, 0, [], by omega, by simp, rfl, L1.out, HG1.out⟩
  case round =>
    obtain ⟨I, g, c, vs, hI, rfl, rfl, hls, hgr⟩ := hrel
    have hvl := hls.ln
    rw [times_len] at hvl
    subst hvl
    have HL := Lib.hid hls
    have HG := Lib.hid hgr
    clear hls hgr
    by_cases hlt : vs.length < N
    · have hi : (vs.length : Int) < (N : Int) := by omega
      have hi2 : 0 < (N : Int) - (vs.length : Int) := by omega
      go_wp2_with fail
      refine (H1.out _ _ HL.out.cur).mono ?_
      rintro e w2 ⟨u, rfl, T2, I2, G2⟩
      obtain ⟨au, cu, rfl⟩ := T2.form
      have L2 := Lib.hid (HL.out.next I2 G2)
      have HT2 := Lib.hid T2
      have HG2 := Lib.hid (grown_trans HG.out G2)
      clear T2 I2 G2
      go_wp2_with (refine wpList_append_tree _ _ rfl _ _ rfl w.heap.size (.slice (some ⟨g, 0, none⟩) vs.length c) vs rfl L2.out.own rfl rfl (by omega) L2.out.lw ?_; intro g3 c3 w3 own3 gr3 or3; have L3 := Lib.hid (L2.out.push HT2.out HL.out.g_lt.2 own3 gr3 (or3.imp (fun e => by simpa [Value.ownBlock] using e) id)); have HG3 := Lib.hid (L2.out.grown HG2.out (Nat.le_refl _) gr3))
      go_roundw
      case rel =>
        refine ⟨vs.length + 1, g3, c3, vs ++ [.slice au (S (timesG S vs.length t).2).1.length cu], by omega, by go_num, rfl, ?_⟩
        rw [times_snoc]
        exact ⟨L3.out, HG3.out⟩
      case measure => simp [intOf]; omega
    · obtain rfl : vs.length = N := by omega
      have hi2 : ¬ 0 < (vs.length : Int) - (vs.length : Int) := by omega
      go_wp2_with fail
      refine (good_partsN (n := nodeO 33 0) (by rw [times_len]) HL.out.parts (times_all (fun s => (HS.out s).good hk) _ _) (by rw [times_len]; omega)).mono ?_
      rintro e w4 hmk
      have HM := Lib.hid (TOut.make HL.out.cur HP HG.out (Below.refl _ _) hmk)
      clear hmk
      obtain ⟨vz, rfl, _⟩ := HM.out
      go_wp2
      go_ret
      rw [HQ.out]
      exact HM.out
theorem block_small {k : Nat} {S : St → List Nd × St} (h : SmE k S) : SmE (1 + 2 * k) (blockG (exactG zs) S) := by
  intro s
  have hb := exact_lt zs 3 s (by decide)
  obtain ⟨l1, l2⟩ := times_small h ((exactG zs).bl 3 s).1 ((exactG zs).bl 3 s).2
  exact sm_list (m := 2) _ ⟨l1, by omega⟩ (by decide)

/-- What a statement's arms may use. -/
structure Stm (B p len cap : Nat) (a : Option Addr) (zs : List Int) (D : Int) (A1 A2 Bk : St → List Nd × St) : Prop where
  d0 : 1 ≤ D
  d1 : D ≤ 100
  a1 : ExprC B p len cap a zs 146 1 A1
  a2 : ExprC B p len cap a zs 146 2 A2
  b : ExprC B p len cap a zs 348 (D - 1) Bk
  s1 : SmE 21 A1
  s2 : SmE 21 A2
  sb : SmE 5000 Bk
variable {D : Int} {A1 A2 Bk : St → List Nd × St}
theorem Stm.g1 (h : Stm B p len cap a zs D A1 A2 Bk) (s : St) : Good (A1 s).1 := (h.s1 s).good (by decide)
theorem Stm.gb (h : Stm B p len cap a zs D A1 A2 Bk) (s : St) : Good (Bk s).1 := (h.sb s).good (by decide)
theorem Stm.m1 (h : Stm B p len cap a zs D A1 A2 Bk) (s : St) : Good (maybeG (exactG zs) A1 s).1 := (maybe_small zs h.s1 s).good (by decide)
theorem Stm.m2 (h : Stm B p len cap a zs D A1 A2 Bk) (s : St) : Good (maybeG (exactG zs) A2 s).1 := (maybe_small zs h.s2 s).good (by decide)
def compA {σ T : Type} (g : Gen σ T) (A1 A2 B : σ → T × σ) (b : Nat) (t : σ) : T × σ :=
  match b with
  | 0 => let e := A1 t; let k := B e.2; (g.nd (nodeO 28 0) [e.1, k.1], k.2)
  | 1 => let e := A1 t; let k := B e.2; let j := B k.2; (g.nd (nodeO 28 0) [e.1, k.1, j.1], j.2)
  | 2 => let e := A1 t; let k := B e.2; (g.nd (nodeO 29 0) [e.1, k.1], k.2)
  | 3 => let k := B t; let e := A1 k.2; (g.nd (nodeO 30 0) [k.1, e.1], e.2)
  | 4 => let x := maybeG g A2 t; let y := maybeG g A1 x.2; let z := maybeG g A1 y.2; let k := B z.2; (g.nd (nodeO 31 0) [x.1, y.1, z.1, k.1], k.2)
  | _ => if (g.bl 2 t).1 = 0 then B (g.bl 2 t).2 else (let x := pkG g l2WordL (g.bl 2 t).2; let y := pkG g l2WordL x.2; let k := B y.2; (g.nd ⟨32, 0, x.1, y.1, []⟩ [k.1], k.2))
theorem comp_arm {σ T : Type} (g : Gen σ T) (A1 A2 B : σ → T × σ) (s : σ) : compG g A1 A2 B s = compA g A1 A2 B (g.bl 6 s).1 (g.bl 6 s).2 := rfl
set_option maxHeartbeats 1600000 in
theorem comp0 {w : World} {s u t : St} (hA : Stm B p len cap a zs D A1 A2 Bk) (H : In B w p a len cap zs s) (hO : ((exactG zs).bl 3 s).1 = 0) (hu : ((exactG zs).bl 3 s).2 = u) (hK : ((exactG zs).bl 6 u).1 = 0) (ht : ((exactG zs).bl 6 u).2 = t) :
    Calls Tryz.prog 307 #[.pointer (some ⟨p, 0, none⟩), .int .i64 D] w (TOut B p a len cap zs (compA (exactG zs) A1 A2 Bk 0 t).1 (compA (exactG zs) A1 A2 Bk 0 t).2 w) := by
  have HA := Lib.hid hA
  have HI := Lib.hid H
  have HO := Lib.hid hO
  have HU := Lib.hid hu
  have HK := Lib.hid hK
  have HT := Lib.hid ht
  have d0 := hA.d0
  have d1 := hA.d1
  clear hA H hO hu hK ht
  go_enter Tryz.func307, Tryz.ntmps307
  go_wp2_with fail
  refine (once_yes 3 (by decide) HO.out HI.out).mono ?_
  rintro e wz ⟨rfl, Iz, Gz⟩
  rw [HU.out] at Iz
  go_wp2_with fail
  refine (bl_ok 6 (by decide) HK.out Iz).mono ?_
  rintro e w0 ⟨rfl, I0, Gy⟩
  rw [HT.out] at I0
  have G0 := Lib.hid (grown_trans Gz Gy)
  have hZ0 := G0.out.size
  clear Iz Gz Gy
  go_wp2_with fail
  refine (HA.out.a1 _ _ I0).mono ?_
  rintro e w1 ⟨v1, rfl, T1, I1, G1⟩
  obtain ⟨a1, c1, rfl⟩ := T1.form
  have GG1 := Lib.hid (grown_trans (G0.out) G1)
  have hZ1 := GG1.out.size
  clear G1
  have X1 := Lib.hid (TR.down T1 (S' := w.heap.size) (by omega) HI.out.lt)
  clear T1
  go_wp2_with fail
  refine (HA.out.b _ _ I1).mono ?_
  rintro e w2 ⟨v2, rfl, T2, I2, G2⟩
  obtain ⟨a2, c2, rfl⟩ := T2.form
  have X1' := Lib.hid (X1.out.grown G2)
  clear X1
  have X1 := X1'
  clear X1'
  have GG2 := Lib.hid (grown_trans (GG1.out) G2)
  have hZ2 := GG2.out.size
  clear G2
  have X2 := Lib.hid (TR.down T2 (S' := w.heap.size) (by omega) HI.out.lt)
  clear T2
  go_wp2_with fail
  refine (good_parts (n := nodeO 28 0) (parts_of [.slice a1 _ c1, .slice a2 _ c2] [(A1 t).1, (Bk (A1 t).2).1] rfl (fun i h _ => by
      have e0 : i = 0 ∨ i = 1 := (by simp at h; omega)
      rcases e0 with rfl | rfl
      · exact X1.out
      · exact X2.out
      )) (fun q hq => by
      simp only [List.mem_cons, List.not_mem_nil, or_false] at hq
      rcases hq with rfl | rfl
      · exact HA.out.g1 _
      · exact HA.out.gb _
      ) (by simp)).mono ?_
  rintro e w3 hmk
  have HM := Lib.hid (TOut.make I2 HI.out.lt (GG2.out) ((Below.refl _ _).alloc (Nat.le_refl _) _) hmk)
  clear hmk
  obtain ⟨vz, rfl, _⟩ := HM.out
  go_wp2
  go_ret
  exact HM.out
set_option maxHeartbeats 1600000 in
theorem comp1 {w : World} {s u t : St} (hA : Stm B p len cap a zs D A1 A2 Bk) (H : In B w p a len cap zs s) (hO : ((exactG zs).bl 3 s).1 = 0) (hu : ((exactG zs).bl 3 s).2 = u) (hK : ((exactG zs).bl 6 u).1 = 1) (ht : ((exactG zs).bl 6 u).2 = t) :
    Calls Tryz.prog 307 #[.pointer (some ⟨p, 0, none⟩), .int .i64 D] w (TOut B p a len cap zs (compA (exactG zs) A1 A2 Bk 1 t).1 (compA (exactG zs) A1 A2 Bk 1 t).2 w) := by
  have HA := Lib.hid hA
  have HI := Lib.hid H
  have HO := Lib.hid hO
  have HU := Lib.hid hu
  have HK := Lib.hid hK
  have HT := Lib.hid ht
  have d0 := hA.d0
  have d1 := hA.d1
  clear hA H hO hu hK ht
  go_enter Tryz.func307, Tryz.ntmps307
  go_wp2_with fail
  refine (once_yes 3 (by decide) HO.out HI.out).mono ?_
  rintro e wz ⟨rfl, Iz, Gz⟩
  rw [HU.out] at Iz
  go_wp2_with fail
  refine (bl_ok 6 (by decide) HK.out Iz).mono ?_
  rintro e w0 ⟨rfl, I0, Gy⟩
  rw [HT.out] at I0
  have G0 := Lib.hid (grown_trans Gz Gy)
  have hZ0 := G0.out.size
  clear Iz Gz Gy
  go_wp2_with fail
  refine (HA.out.a1 _ _ I0).mono ?_
  rintro e w1 ⟨v1, rfl, T1, I1, G1⟩
  obtain ⟨a1, c1, rfl⟩ := T1.form
  have GG1 := Lib.hid (grown_trans (G0.out) G1)
  have hZ1 := GG1.out.size
  clear G1
  have X1 := Lib.hid (TR.down T1 (S' := w.heap.size) (by omega) HI.out.lt)
  clear T1
  go_wp2_with fail
  refine (HA.out.b _ _ I1).mono ?_
  rintro e w2 ⟨v2, rfl, T2, I2, G2⟩
  obtain ⟨a2, c2, rfl⟩ := T2.form
  have X1' := Lib.hid (X1.out.grown G2)
  clear X1
  have X1 := X1'
  clear X1'
  have GG2 := Lib.hid (grown_trans (GG1.out) G2)
  have hZ2 := GG2.out.size
  clear G2
  have X2 := Lib.hid (TR.down T2 (S' := w.heap.size) (by omega) HI.out.lt)
  clear T2
  go_wp2_with fail
  refine (HA.out.b _ _ I2).mono ?_
  rintro e w3 ⟨v3, rfl, T3, I3, G3⟩
  obtain ⟨a3, c3, rfl⟩ := T3.form
  have X1' := Lib.hid (X1.out.grown G3)
  clear X1
  have X1 := X1'
  clear X1'
  have X2' := Lib.hid (X2.out.grown G3)
  clear X2
  have X2 := X2'
  clear X2'
  have GG3 := Lib.hid (grown_trans (GG2.out) G3)
  have hZ3 := GG3.out.size
  clear G3
  have X3 := Lib.hid (TR.down T3 (S' := w.heap.size) (by omega) HI.out.lt)
  clear T3
  go_wp2_with fail
  refine (good_parts (n := nodeO 28 0) (parts_of [.slice a1 _ c1, .slice a2 _ c2, .slice a3 _ c3] [(A1 t).1, (Bk (A1 t).2).1, (Bk (Bk (A1 t).2).2).1] rfl (fun i h _ => by
      have e0 : i = 0 ∨ i = 1 ∨ i = 2 := (by simp at h; omega)
      rcases e0 with rfl | rfl | rfl
      · exact X1.out
      · exact X2.out
      · exact X3.out
      )) (fun q hq => by
      simp only [List.mem_cons, List.not_mem_nil, or_false] at hq
      rcases hq with rfl | rfl | rfl
      · exact HA.out.g1 _
      · exact HA.out.gb _
      · exact HA.out.gb _
      ) (by simp)).mono ?_
  rintro e w4 hmk
  have HM := Lib.hid (TOut.make I3 HI.out.lt (GG3.out) ((Below.refl _ _).alloc (Nat.le_refl _) _) hmk)
  clear hmk
  obtain ⟨vz, rfl, _⟩ := HM.out
  go_wp2
  go_ret
  exact HM.out
set_option maxHeartbeats 1600000 in
theorem comp2 {w : World} {s u t : St} (hA : Stm B p len cap a zs D A1 A2 Bk) (H : In B w p a len cap zs s) (hO : ((exactG zs).bl 3 s).1 = 0) (hu : ((exactG zs).bl 3 s).2 = u) (hK : ((exactG zs).bl 6 u).1 = 2) (ht : ((exactG zs).bl 6 u).2 = t) :
    Calls Tryz.prog 307 #[.pointer (some ⟨p, 0, none⟩), .int .i64 D] w (TOut B p a len cap zs (compA (exactG zs) A1 A2 Bk 2 t).1 (compA (exactG zs) A1 A2 Bk 2 t).2 w) := by
  have HA := Lib.hid hA
  have HI := Lib.hid H
  have HO := Lib.hid hO
  have HU := Lib.hid hu
  have HK := Lib.hid hK
  have HT := Lib.hid ht
  have d0 := hA.d0
  have d1 := hA.d1
  clear hA H hO hu hK ht
  go_enter Tryz.func307, Tryz.ntmps307
  go_wp2_with fail
  refine (once_yes 3 (by decide) HO.out HI.out).mono ?_
  rintro e wz ⟨rfl, Iz, Gz⟩
  rw [HU.out] at Iz
  go_wp2_with fail
  refine (bl_ok 6 (by decide) HK.out Iz).mono ?_
  rintro e w0 ⟨rfl, I0, Gy⟩
  rw [HT.out] at I0
  have G0 := Lib.hid (grown_trans Gz Gy)
  have hZ0 := G0.out.size
  clear Iz Gz Gy
  go_wp2_with fail
  refine (HA.out.a1 _ _ I0).mono ?_
  rintro e w1 ⟨v1, rfl, T1, I1, G1⟩
  obtain ⟨a1, c1, rfl⟩ := T1.form
  have GG1 := Lib.hid (grown_trans (G0.out) G1)
  have hZ1 := GG1.out.size
  clear G1
  have X1 := Lib.hid (TR.down T1 (S' := w.heap.size) (by omega) HI.out.lt)
  clear T1
  go_wp2_with fail
  refine (HA.out.b _ _ I1).mono ?_
  rintro e w2 ⟨v2, rfl, T2, I2, G2⟩
  obtain ⟨a2, c2, rfl⟩ := T2.form
  have X1' := Lib.hid (X1.out.grown G2)
  clear X1
  have X1 := X1'
  clear X1'
  have GG2 := Lib.hid (grown_trans (GG1.out) G2)
  have hZ2 := GG2.out.size
  clear G2
  have X2 := Lib.hid (TR.down T2 (S' := w.heap.size) (by omega) HI.out.lt)
  clear T2
  go_wp2_with fail
  refine (good_parts (n := nodeO 29 0) (parts_of [.slice a1 _ c1, .slice a2 _ c2] [(A1 t).1, (Bk (A1 t).2).1] rfl (fun i h _ => by
      have e0 : i = 0 ∨ i = 1 := (by simp at h; omega)
      rcases e0 with rfl | rfl
      · exact X1.out
      · exact X2.out
      )) (fun q hq => by
      simp only [List.mem_cons, List.not_mem_nil, or_false] at hq
      rcases hq with rfl | rfl
      · exact HA.out.g1 _
      · exact HA.out.gb _
      ) (by simp)).mono ?_
  rintro e w3 hmk
  have HM := Lib.hid (TOut.make I2 HI.out.lt (GG2.out) ((Below.refl _ _).alloc (Nat.le_refl _) _) hmk)
  clear hmk
  obtain ⟨vz, rfl, _⟩ := HM.out
  go_wp2
  go_ret
  exact HM.out
set_option maxHeartbeats 1600000 in
theorem comp3 {w : World} {s u t : St} (hA : Stm B p len cap a zs D A1 A2 Bk) (H : In B w p a len cap zs s) (hO : ((exactG zs).bl 3 s).1 = 0) (hu : ((exactG zs).bl 3 s).2 = u) (hK : ((exactG zs).bl 6 u).1 = 3) (ht : ((exactG zs).bl 6 u).2 = t) :
    Calls Tryz.prog 307 #[.pointer (some ⟨p, 0, none⟩), .int .i64 D] w (TOut B p a len cap zs (compA (exactG zs) A1 A2 Bk 3 t).1 (compA (exactG zs) A1 A2 Bk 3 t).2 w) := by
  have HA := Lib.hid hA
  have HI := Lib.hid H
  have HO := Lib.hid hO
  have HU := Lib.hid hu
  have HK := Lib.hid hK
  have HT := Lib.hid ht
  have d0 := hA.d0
  have d1 := hA.d1
  clear hA H hO hu hK ht
  go_enter Tryz.func307, Tryz.ntmps307
  go_wp2_with fail
  refine (once_yes 3 (by decide) HO.out HI.out).mono ?_
  rintro e wz ⟨rfl, Iz, Gz⟩
  rw [HU.out] at Iz
  go_wp2_with fail
  refine (bl_ok 6 (by decide) HK.out Iz).mono ?_
  rintro e w0 ⟨rfl, I0, Gy⟩
  rw [HT.out] at I0
  have G0 := Lib.hid (grown_trans Gz Gy)
  have hZ0 := G0.out.size
  clear Iz Gz Gy
  go_wp2_with fail
  refine (HA.out.b _ _ I0).mono ?_
  rintro e w1 ⟨v1, rfl, T1, I1, G1⟩
  obtain ⟨a1, c1, rfl⟩ := T1.form
  have GG1 := Lib.hid (grown_trans (G0.out) G1)
  have hZ1 := GG1.out.size
  clear G1
  have X1 := Lib.hid (TR.down T1 (S' := w.heap.size) (by omega) HI.out.lt)
  clear T1
  go_wp2_with fail
  refine (HA.out.a1 _ _ I1).mono ?_
  rintro e w2 ⟨v2, rfl, T2, I2, G2⟩
  obtain ⟨a2, c2, rfl⟩ := T2.form
  have X1' := Lib.hid (X1.out.grown G2)
  clear X1
  have X1 := X1'
  clear X1'
  have GG2 := Lib.hid (grown_trans (GG1.out) G2)
  have hZ2 := GG2.out.size
  clear G2
  have X2 := Lib.hid (TR.down T2 (S' := w.heap.size) (by omega) HI.out.lt)
  clear T2
  go_wp2_with fail
  refine (good_parts (n := nodeO 30 0) (parts_of [.slice a1 _ c1, .slice a2 _ c2] [(Bk t).1, (A1 (Bk t).2).1] rfl (fun i h _ => by
      have e0 : i = 0 ∨ i = 1 := (by simp at h; omega)
      rcases e0 with rfl | rfl
      · exact X1.out
      · exact X2.out
      )) (fun q hq => by
      simp only [List.mem_cons, List.not_mem_nil, or_false] at hq
      rcases hq with rfl | rfl
      · exact HA.out.gb _
      · exact HA.out.g1 _
      ) (by simp)).mono ?_
  rintro e w3 hmk
  have HM := Lib.hid (TOut.make I2 HI.out.lt (GG2.out) ((Below.refl _ _).alloc (Nat.le_refl _) _) hmk)
  clear hmk
  obtain ⟨vz, rfl, _⟩ := HM.out
  go_wp2
  go_ret
  exact HM.out
set_option maxHeartbeats 1600000 in
theorem comp4 {w : World} {s u t : St} (hA : Stm B p len cap a zs D A1 A2 Bk) (H : In B w p a len cap zs s) (hO : ((exactG zs).bl 3 s).1 = 0) (hu : ((exactG zs).bl 3 s).2 = u) (hK : ((exactG zs).bl 6 u).1 = 4) (ht : ((exactG zs).bl 6 u).2 = t) :
    Calls Tryz.prog 307 #[.pointer (some ⟨p, 0, none⟩), .int .i64 D] w (TOut B p a len cap zs (compA (exactG zs) A1 A2 Bk 4 t).1 (compA (exactG zs) A1 A2 Bk 4 t).2 w) := by
  have HA := Lib.hid hA
  have HI := Lib.hid H
  have HO := Lib.hid hO
  have HU := Lib.hid hu
  have HK := Lib.hid hK
  have HT := Lib.hid ht
  have d0 := hA.d0
  have d1 := hA.d1
  clear hA H hO hu hK ht
  go_enter Tryz.func307, Tryz.ntmps307
  go_wp2_with fail
  refine (once_yes 3 (by decide) HO.out HI.out).mono ?_
  rintro e wz ⟨rfl, Iz, Gz⟩
  rw [HU.out] at Iz
  go_wp2_with fail
  refine (bl_ok 6 (by decide) HK.out Iz).mono ?_
  rintro e w0 ⟨rfl, I0, Gy⟩
  rw [HT.out] at I0
  have G0 := Lib.hid (grown_trans Gz Gy)
  have hZ0 := G0.out.size
  clear Iz Gz Gy
  go_wp2_with fail
  refine (maybe_ok (by decide) HA.out.a2 _ _ I0).mono ?_
  rintro e w1 ⟨v1, rfl, T1, I1, G1⟩
  obtain ⟨a1, c1, rfl⟩ := T1.form
  have GG1 := Lib.hid (grown_trans (G0.out) G1)
  have hZ1 := GG1.out.size
  clear G1
  have X1 := Lib.hid (TR.down T1 (S' := w.heap.size) (by omega) HI.out.lt)
  clear T1
  go_wp2_with fail
  refine (maybe_ok (by decide) HA.out.a1 _ _ I1).mono ?_
  rintro e w2 ⟨v2, rfl, T2, I2, G2⟩
  obtain ⟨a2, c2, rfl⟩ := T2.form
  have X1' := Lib.hid (X1.out.grown G2)
  clear X1
  have X1 := X1'
  clear X1'
  have GG2 := Lib.hid (grown_trans (GG1.out) G2)
  have hZ2 := GG2.out.size
  clear G2
  have X2 := Lib.hid (TR.down T2 (S' := w.heap.size) (by omega) HI.out.lt)
  clear T2
  go_wp2_with fail
  refine (maybe_ok (by decide) HA.out.a1 _ _ I2).mono ?_
  rintro e w3 ⟨v3, rfl, T3, I3, G3⟩
  obtain ⟨a3, c3, rfl⟩ := T3.form
  have X1' := Lib.hid (X1.out.grown G3)
  clear X1
  have X1 := X1'
  clear X1'
  have X2' := Lib.hid (X2.out.grown G3)
  clear X2
  have X2 := X2'
  clear X2'
  have GG3 := Lib.hid (grown_trans (GG2.out) G3)
  have hZ3 := GG3.out.size
  clear G3
  have X3 := Lib.hid (TR.down T3 (S' := w.heap.size) (by omega) HI.out.lt)
  clear T3
  go_wp2_with fail
  refine (HA.out.b _ _ I3).mono ?_
  rintro e w4 ⟨v4, rfl, T4, I4, G4⟩
  obtain ⟨a4, c4, rfl⟩ := T4.form
  have X1' := Lib.hid (X1.out.grown G4)
  clear X1
  have X1 := X1'
  clear X1'
  have X2' := Lib.hid (X2.out.grown G4)
  clear X2
  have X2 := X2'
  clear X2'
  have X3' := Lib.hid (X3.out.grown G4)
  clear X3
  have X3 := X3'
  clear X3'
  have GG4 := Lib.hid (grown_trans (GG3.out) G4)
  have hZ4 := GG4.out.size
  clear G4
  have X4 := Lib.hid (TR.down T4 (S' := w.heap.size) (by omega) HI.out.lt)
  clear T4
  go_wp2_with fail
  refine (good_parts (n := nodeO 31 0) (parts_of [.slice a1 _ c1, .slice a2 _ c2, .slice a3 _ c3, .slice a4 _ c4] [(maybeG (exactG zs) A2 t).1, (maybeG (exactG zs) A1 (maybeG (exactG zs) A2 t).2).1, (maybeG (exactG zs) A1 (maybeG (exactG zs) A1 (maybeG (exactG zs) A2 t).2).2).1, (Bk (maybeG (exactG zs) A1 (maybeG (exactG zs) A1 (maybeG (exactG zs) A2 t).2).2).2).1] rfl (fun i h _ => by
      have e0 : i = 0 ∨ i = 1 ∨ i = 2 ∨ i = 3 := (by simp at h; omega)
      rcases e0 with rfl | rfl | rfl | rfl
      · exact X1.out
      · exact X2.out
      · exact X3.out
      · exact X4.out
      )) (fun q hq => by
      simp only [List.mem_cons, List.not_mem_nil, or_false] at hq
      rcases hq with rfl | rfl | rfl | rfl
      · exact HA.out.m2 _
      · exact HA.out.m1 _
      · exact HA.out.m1 _
      · exact HA.out.gb _
      ) (by simp)).mono ?_
  rintro e w5 hmk
  have HM := Lib.hid (TOut.make I4 HI.out.lt (GG4.out) ((Below.refl _ _).alloc (Nat.le_refl _) _) hmk)
  clear hmk
  obtain ⟨vz, rfl, _⟩ := HM.out
  go_wp2
  go_ret
  exact HM.out
set_option maxHeartbeats 1600000 in
theorem comp5 {w : World} {s u t : St} (hA : Stm B p len cap a zs D A1 A2 Bk) (H : In B w p a len cap zs s) (hO : ((exactG zs).bl 3 s).1 = 0) (hu : ((exactG zs).bl 3 s).2 = u) (hK : ((exactG zs).bl 6 u).1 = 5) (ht : ((exactG zs).bl 6 u).2 = t) :
    Calls Tryz.prog 307 #[.pointer (some ⟨p, 0, none⟩), .int .i64 D] w (TOut B p a len cap zs (compA (exactG zs) A1 A2 Bk 5 t).1 (compA (exactG zs) A1 A2 Bk 5 t).2 w) := by
  have HA := Lib.hid hA
  have HI := Lib.hid H
  have HO := Lib.hid hO
  have HU := Lib.hid hu
  have HK := Lib.hid hK
  have HT := Lib.hid ht
  have d0 := hA.d0
  have d1 := hA.d1
  clear hA H hO hu hK ht
  by_cases hc : ((exactG zs).bl 2 t).1 = 0
  · have HQ := Lib.hid (show compA (exactG zs) A1 A2 Bk 5 t = Bk ((exactG zs).bl 2 t).2 from if_pos hc)
    go_enter Tryz.func307, Tryz.ntmps307
    go_wp2_with fail
    refine (once_yes 3 (by decide) HO.out HI.out).mono ?_
    rintro e wz ⟨rfl, Iz, Gz⟩
    rw [HU.out] at Iz
    go_wp2_with fail
    refine (bl_ok 6 (by decide) HK.out Iz).mono ?_
    rintro e w0 ⟨rfl, I0, Gy⟩
    rw [HT.out] at I0
    have G0 := Lib.hid (grown_trans Gz Gy)
    have hZ0 := G0.out.size
    clear Iz Gz Gy
    go_wp2_with fail
    refine (once_yes 2 (by decide) hc I0).mono ?_
    rintro e w1 ⟨rfl, I1, G1⟩
    have GG1 := Lib.hid (grown_trans (G0.out) G1)
    have hZ1 := GG1.out.size
    clear G1
    go_wp2_with fail
    refine (HA.out.b _ _ I1).mono ?_
    rintro e w2 ho
    have HM := Lib.hid (TOut.back (GG1.out) HI.out.lt ho)
    clear ho
    obtain ⟨vz, rfl, _⟩ := HM.out
    go_wp2
    go_ret
    rw [HQ.out]
    exact HM.out
  · have HQ := Lib.hid (show compA (exactG zs) A1 A2 Bk 5 t = (makeT ⟨32, 0, (pkG (exactG zs) l2WordL ((exactG zs).bl 2 t).2).1, (pkG (exactG zs) l2WordL (pkG (exactG zs) l2WordL ((exactG zs).bl 2 t).2).2).1, []⟩ [(Bk (pkG (exactG zs) l2WordL (pkG (exactG zs) l2WordL ((exactG zs).bl 2 t).2).2).2).1], (Bk (pkG (exactG zs) l2WordL (pkG (exactG zs) l2WordL ((exactG zs).bl 2 t).2).2).2).2) from if_neg hc)
    go_enter Tryz.func307, Tryz.ntmps307
    go_wp2_with fail
    refine (once_yes 3 (by decide) HO.out HI.out).mono ?_
    rintro e wz ⟨rfl, Iz, Gz⟩
    rw [HU.out] at Iz
    go_wp2_with fail
    refine (bl_ok 6 (by decide) HK.out Iz).mono ?_
    rintro e w0 ⟨rfl, I0, Gy⟩
    rw [HT.out] at I0
    have G0 := Lib.hid (grown_trans Gz Gy)
    have hZ0 := G0.out.size
    clear Iz Gz Gy
    go_wp2_with fail
    refine (once_no 2 (by decide) hc I0).mono ?_
    rintro e w1 ⟨rfl, I1, G1⟩
    have GG1 := Lib.hid (grown_trans (G0.out) G1)
    have hZ1 := GG1.out.size
    clear G1
    go_wp2_with fail
    refine (word_ok I1).mono ?_
    rintro e w2 ⟨⟨rfl, I2, G2⟩, Z2⟩
    have GG2 := Lib.hid (grown_trans (GG1.out) G2)
    have hZ2 := GG2.out.size
    clear G2
    go_wp2_with fail
    refine (word_ok I2).mono ?_
    rintro e w3 ⟨⟨rfl, I3, G3⟩, Z3⟩
    have GG3 := Lib.hid (grown_trans (GG2.out) G3)
    have hZ3 := GG3.out.size
    clear G3
    go_wp2_with fail
    refine (HA.out.b _ _ I3).mono ?_
    rintro e w4 ⟨v4, rfl, T4, I4, G4⟩
    obtain ⟨a4, c4, rfl⟩ := T4.form
    have GG4 := Lib.hid (grown_trans (GG3.out) G4)
    have hZ4 := GG4.out.size
    clear G4
    have X4 := Lib.hid (TR.down T4 (S' := w.heap.size) (by omega) HI.out.lt)
    clear T4
    go_wp2_with fail
    refine (good_parts (n := ⟨32, 0, (pkG (exactG zs) l2WordL ((exactG zs).bl 2 t).2).1, (pkG (exactG zs) l2WordL (pkG (exactG zs) l2WordL ((exactG zs).bl 2 t).2).2).1, []⟩) (parts_of [.slice a4 _ c4] [(Bk (pkG (exactG zs) l2WordL (pkG (exactG zs) l2WordL ((exactG zs).bl 2 t).2).2).2).1] rfl (fun i h _ => by have e0 : i = 0 := (by simpa using h); subst e0; exact X4.out)) (fun q hq => by
        simp only [List.mem_cons, List.not_mem_nil, or_false] at hq
        rcases hq with rfl
        · exact HA.out.gb _
        ) (by simp)).mono ?_
    rintro e w5 hmk
    have HM := Lib.hid (TOut.make I4 HI.out.lt (GG4.out) ((Below.refl _ _).alloc (Nat.le_refl _) _) hmk)
    clear hmk
    obtain ⟨vz, rfl, _⟩ := HM.out
    go_wp2
    go_ret
    rw [HQ.out]
    exact HM.out
theorem comp_ok {w : World} {s u : St} (hA : Stm B p len cap a zs D A1 A2 Bk) (H : In B w p a len cap zs s) (hO : ((exactG zs).bl 3 s).1 = 0) (hu : ((exactG zs).bl 3 s).2 = u) :
    Calls Tryz.prog 307 #[.pointer (some ⟨p, 0, none⟩), .int .i64 D] w (TOut B p a len cap zs (compG (exactG zs) A1 A2 Bk u).1 (compG (exactG zs) A1 A2 Bk u).2 w) := by
  obtain ⟨K, hK⟩ : ∃ K, ((exactG zs).bl 6 u).1 = K := ⟨_, rfl⟩
  obtain ⟨t, ht⟩ : ∃ t, ((exactG zs).bl 6 u).2 = t := ⟨_, rfl⟩
  have hb := exact_lt zs 6 u (by decide)
  rw [comp_arm, hK, ht]
  rw [hK] at hb
  rcases (show K = 0 ∨ K = 1 ∨ K = 2 ∨ K = 3 ∨ K = 4 ∨ K = 5 by omega) with rfl | rfl | rfl | rfl | rfl | rfl
  · exact comp0 hA H hO hu hK ht
  · exact comp1 hA H hO hu hK ht
  · exact comp2 hA H hO hu hK ht
  · exact comp3 hA H hO hu hK ht
  · exact comp4 hA H hO hu hK ht
  · exact comp5 hA H hO hu hK ht
theorem comp_small (h1 : SmE 21 A1) (h2 : SmE 21 A2) {k : Nat} (hb : SmE k Bk) : SmE (100 + 2 * k) (compG (exactG zs) A1 A2 Bk) := by
  intro s
  rw [comp_arm]
  generalize ((exactG zs).bl 6 s).1 = b
  generalize ((exactG zs).bl 6 s).2 = t
  have two : ∀ {x y : List Nd} (n : Nd), Small 21 x → Small k y → Small (100 + 2 * k) (makeT n [x, y]) := fun {x y} n hx hy => by
    refine ⟨by rw [makeT_len]; omega, ?_, (small_make (k := 21 + k) (m := 2) n [x, y] (fun q hq => ?_) (by simp) (by decide)).2.2⟩
    · rw [makeT_len]; have := hx.2.1; have := hy.2.1; simp only [sumL]; omega
    · simp only [List.mem_cons, List.not_mem_nil, or_false] at hq
      rcases hq with rfl | rfl
      · exact hx.mono (by omega)
      · exact hy.mono (by omega)
  rcases b with _ | _ | _ | _ | _ | b
  · exact two _ (h1 _) (hb _)
  · refine ⟨?_, ?_, (small_make (k := 21 + k) (m := 3) _ _ (fun q hq => ?_) (by simp) (by decide)).2.2⟩
    · show 0 < (makeT _ _).length
      rw [makeT_len]; omega
    · show (makeT _ _).length ≤ _
      rw [makeT_len]
      have x1 := (h1 t).2.1
      have x2 := (hb (A1 t).2).2.1
      have x3 := (hb (Bk (A1 t).2).2).2.1
      simp only [sumL]
      omega
    · simp only [List.mem_cons, List.not_mem_nil, or_false] at hq
      rcases hq with rfl | rfl | rfl
      · exact (h1 _).mono (by omega)
      · exact (hb _).mono (by omega)
      · exact (hb _).mono (by omega)
  · exact two _ (h1 _) (hb _)
  · have two' : ∀ {x y : List Nd} (n : Nd), Small k x → Small 21 y → Small (100 + 2 * k) (makeT n [x, y]) := fun {x y} n hx hy => by
      refine ⟨by rw [makeT_len]; omega, ?_, (small_make (k := 21 + k) (m := 2) n [x, y] (fun q hq => ?_) (by simp) (by decide)).2.2⟩
      · rw [makeT_len]; have := hx.2.1; have := hy.2.1; simp only [sumL]; omega
      · simp only [List.mem_cons, List.not_mem_nil, or_false] at hq
        rcases hq with rfl | rfl
        · exact hx.mono (by omega)
        · exact hy.mono (by omega)
    exact two' _ (hb _) (h1 _)
  · have m1 := maybe_small zs h1
    have m2 := maybe_small zs h2
    refine ⟨?_, ?_, (small_make (k := 22 + k) (m := 4) _ _ (fun q hq => ?_) (by simp) (by decide)).2.2⟩
    · show 0 < (makeT _ _).length
      rw [makeT_len]; omega
    · show (makeT _ _).length ≤ _
      rw [makeT_len]
      have x1 := (m2 t).2.1
      have x2 := (m1 (maybeG (exactG zs) A2 t).2).2.1
      have x3 := (m1 (maybeG (exactG zs) A1 (maybeG (exactG zs) A2 t).2).2).2.1
      have x4 := (hb (maybeG (exactG zs) A1 (maybeG (exactG zs) A1 (maybeG (exactG zs) A2 t).2).2).2).2.1
      simp only [sumL]
      omega
    · simp only [List.mem_cons, List.not_mem_nil, or_false] at hq
      rcases hq with rfl | rfl | rfl | rfl
      · exact (m2 _).mono (by omega)
      · exact (m1 _).mono (by omega)
      · exact (m1 _).mono (by omega)
      · exact (hb _).mono (by omega)
  · show Small _ (if ((exactG zs).bl 2 t).1 = 0 then _ else _ : List Nd × St).1
    split
    · exact (hb _).mono (by omega)
    · exact (sm1 _ (hb _)).mono (by omega)
set_option maxHeartbeats 1600000 in
theorem stmt_simple {w : World} {s u : St} {E0 E1 : St → List Nd × St} (hD : 1 ≤ D ∧ D ≤ 2) (hS : ExprC B p len cap a zs 347 D (simpleG (exactG zs) E0 E1)) (H : In B w p a len cap zs s) (hO : ¬ ((exactG zs).bl 3 s).1 = 0) (hu : ((exactG zs).bl 3 s).2 = u) :
    Calls Tryz.prog 307 #[.pointer (some ⟨p, 0, none⟩), .int .i64 D] w (TOut B p a len cap zs (simpleG (exactG zs) E0 E1 u).1 (simpleG (exactG zs) E0 E1 u).2 w) := by
  have HI := Lib.hid H
  have HS := Lib.hid hS
  have HO := Lib.hid hO
  have HU := Lib.hid hu
  clear H hS hO hu
  rcases (show D = 1 ∨ D = 2 by omega) with rfl | rfl
  all_goals
    clear hD
    go_enter Tryz.func307, Tryz.ntmps307
    go_wp2_with fail
    refine (once_no 3 (by decide) HO.out HI.out).mono ?_
    rintro e wz ⟨rfl, Iz, Gz⟩
    rw [HU.out] at Iz
    have HG := Lib.hid Gz
    clear Gz
    go_wp2_with fail
    refine (HS.out _ _ Iz).mono ?_
    rintro e w3 ho
    have HM := Lib.hid (TOut.back HG.out HI.out.lt ho)
    clear ho
    obtain ⟨vz, rfl, _⟩ := HM.out
    go_wp2
    go_ret
    exact HM.out
set_option maxHeartbeats 1600000 in
theorem stmt_zero {E0 E1 : St → List Nd × St} (hS : ExprC B p len cap a zs 347 0 (simpleG (exactG zs) E0 E1)) : ExprC B p len cap a zs 307 0 (simpleG (exactG zs) E0 E1) := by
  intro w s H
  have HI := Lib.hid H
  have HS := Lib.hid hS
  clear H hS
  go_enter Tryz.func307, Tryz.ntmps307
  go_wp2_with fail
  refine (HS.out _ _ HI.out).mono ?_
  rintro e w3 ho
  have HM := Lib.hid ho
  clear ho
  obtain ⟨vz, rfl, _⟩ := HM.out
  go_wp2
  go_ret
  exact HM.out
def kSt : Nat → Nat
  | 0 => 85
  | d + 1 => 185 + 2 * (1 + 2 * kSt d)
theorem stmt_all (B p len cap : Nat) (a : Option Addr) (zs : List Int) : ∀ d : Nat, d ≤ 2 → ExprC B p len cap a zs 307 (d : Int) (stmtG (exactG zs) d) ∧ SmE (kSt d) (stmtG (exactG zs) d) := by
  have e0 := expr_ok 0 (by decide) B p len cap a zs
  have e1 := expr_ok 1 (by decide) B p len cap a zs
  have e2 := expr_ok 2 (by decide) B p len cap a zs
  have z0 : SmE 21 (exprG (exactG zs) 0) := ((exprs_small zs 0).1).mono (by decide)
  have z1 : SmE 21 (exprG (exactG zs) 1) := ((exprs_small zs 1).1).mono (by decide)
  have z2 : SmE 21 (exprG (exactG zs) 2) := ((exprs_small zs 2).1).mono (by decide)
  intro d
  induction d with
  | zero =>
    intro _
    refine ⟨stmt_zero (simple_ok (k := 21) ⟨by decide, by decide, e0, fun w s H => expr_leaf _ (by decide) H, z0, z0, by decide⟩), (simple_small zs z0 z0).mono (by decide)⟩
  | succ d ih =>
    intro hd
    obtain ⟨i1, i2⟩ := ih (by omega)
    have hkd : kSt d ≤ 530 := by
      rcases (show d = 0 ∨ d = 1 by omega) with rfl | rfl <;> decide
    have hblk := block_ok (D := (d : Int)) (by omega) i1 i2 (by omega)
    have hbs := block_small (zs := zs) i2
    have hA : Stm B p len cap a zs (((d + 1 : Nat)) : Int) (exprG (exactG zs) 1) (exprG (exactG zs) 2) (blockG (exactG zs) (stmtG (exactG zs) d)) := ⟨by omega, by omega, e1, e2, by rw [show ((d + 1 : Nat) : Int) - 1 = (d : Int) by omega]; exact hblk, z1, z2, hbs.mono (by omega)⟩
    have hsim : ExprC B p len cap a zs 347 ((d + 1 : Nat) : Int) (simpleG (exactG zs) (exprG (exactG zs) (min (d + 1) 2)) (exprG (exactG zs) (min (d + 1) 2 - 1))) ∧ SmE 85 (simpleG (exactG zs) (exprG (exactG zs) (min (d + 1) 2)) (exprG (exactG zs) (min (d + 1) 2 - 1))) := by
      rcases (show d = 0 ∨ d = 1 by omega) with rfl | rfl
      · exact ⟨simple_ok (k := 21) ⟨by decide, by decide, e1, e0, z1, z0, by decide⟩, (simple_small zs z1 z0).mono (by decide)⟩
      · exact ⟨simple_ok (k := 21) ⟨by decide, by decide, e2, e1, z2, z1, by decide⟩, (simple_small zs z2 z1).mono (by decide)⟩
    constructor
    · intro w s H
      by_cases hc : ((exactG zs).bl 3 s).1 = 0
      · rw [show stmtG (exactG zs) (d + 1) s = compG (exactG zs) (exprG (exactG zs) 1) (exprG (exactG zs) 2) (blockG (exactG zs) (stmtG (exactG zs) d)) ((exactG zs).bl 3 s).2 from if_pos hc]
        exact comp_ok hA H hc rfl
      · rw [show stmtG (exactG zs) (d + 1) s = simpleG (exactG zs) (exprG (exactG zs) (min (d + 1) 2)) (exprG (exactG zs) (min (d + 1) 2 - 1)) ((exactG zs).bl 3 s).2 from if_neg hc]
        exact stmt_simple (by omega) hsim.1 H hc rfl
    · intro s
      by_cases hc : ((exactG zs).bl 3 s).1 = 0
      · rw [show stmtG (exactG zs) (d + 1) s = compG (exactG zs) (exprG (exactG zs) 1) (exprG (exactG zs) 2) (blockG (exactG zs) (stmtG (exactG zs) d)) ((exactG zs).bl 3 s).2 from if_pos hc]
        exact (comp_small z1 z2 hbs _).mono (by simp only [kSt]; omega)
      · rw [show stmtG (exactG zs) (d + 1) s = simpleG (exactG zs) (exprG (exactG zs) (min (d + 1) 2)) (exprG (exactG zs) (min (d + 1) 2 - 1)) ((exactG zs).bl 3 s).2 from if_neg hc]
        exact (hsim.2 _).mono (by simp only [kSt]; omega)
end
end Go.Proofs.YtiilpnoaocfjgaaGreatDoor.draw

namespace Go.Proofs.YtiilpnoaocfjgaaGreatDoor.draw
open Go.ChangeShapes Go.WideShapes Go.ChangeAt Go.RowKit
open nd
set_option linter.unusedVariables false
set_option maxRecDepth 20000

section
variable {B p len cap : Nat} {a : Option Addr} {zs : List Int}
/-- What an item's arms may use. -/
structure Itm (B p len cap : Nat) (a : Option Addr) (zs : List Int) (D : Int) (A1 Ed Bk : St → List Nd × St) : Prop where
  d0 : 1 ≤ D
  d1 : D ≤ 2
  a1 : ExprC B p len cap a zs 146 1 A1
  e : ExprC B p len cap a zs 146 D Ed
  b : ExprC B p len cap a zs 348 D Bk
  s1 : SmE 21 A1
  se : SmE 21 Ed
  sb : SmE 5000 Bk
variable {D : Int} {A1 Ed Bk : St → List Nd × St}
theorem Itm.g1 (h : Itm B p len cap a zs D A1 Ed Bk) (s : St) : Good (A1 s).1 := (h.s1 s).good (by decide)
theorem Itm.ge (h : Itm B p len cap a zs D A1 Ed Bk) (s : St) : Good (Ed s).1 := (h.se s).good (by decide)
theorem Itm.gb (h : Itm B p len cap a zs D A1 Ed Bk) (s : St) : Good (Bk s).1 := (h.sb s).good (by decide)
def funcG {σ T : Type} (g : Gen σ T) (B : σ → T × σ) (t : σ) : T × σ :=
  let n := g.bl 3 t; let l := timesG (wordG g) n.1 n.2; let x := pkG g l7NameL l.2; let k := B x.2; (g.nd (nodeS 44 x.1) (l.1 ++ [k.1]), k.2)
def itemA {σ T : Type} (g : Gen σ T) (A1 E B : σ → T × σ) (b : Nat) (t : σ) : T × σ :=
  match b with
  | 0 => let o := g.bl 2 t; let k := B o.2; (g.nd (nodeO (40 + (o.1 : Int)) 0) [k.1], k.2)
  | 1 => let e := E t; (g.nd (nodeO 42 1) [e.1], e.2)
  | 2 => let k := B t; (g.nd (nodeO 42 2) [k.1], k.2)
  | 3 => let e := A1 t; let f := A1 e.2; (g.nd (nodeO 43 1) [e.1, f.1], f.2)
  | 4 => let e := A1 t; let f := A1 e.2; let k := B f.2; (g.nd (nodeO 43 3) [e.1, f.1, k.1], k.2)
  | 5 => funcG g B t
  | 6 => let x := pkG g l7TopL t; (g.nd (nodeS 34 x.1) [], x.2)
  | _ => let e := E t; let k := B e.2; (g.nd (nodeO 42 3) [e.1, k.1], k.2)
theorem item_arm {σ T : Type} (g : Gen σ T) (s : σ) : itemG g s = itemA g (exprG g 1) (exprG g (1 + (g.bl 2 s).1)) (blockG g (stmtG g (1 + (g.bl 2 s).1))) (g.bl 8 (g.bl 2 s).2).1 (g.bl 8 (g.bl 2 s).2).2 := rfl
set_option maxHeartbeats 1600000 in
theorem item0 {w : World} {s u t : St} {K2 : Nat} (hA : Itm B p len cap a zs (1 + (K2 : Int)) A1 Ed Bk) (H : In B w p a len cap zs s) (hO : ((exactG zs).bl 2 s).1 = K2) (hk2 : K2 < 2) (hu : ((exactG zs).bl 2 s).2 = u) (hK : ((exactG zs).bl 8 u).1 = 0) (ht : ((exactG zs).bl 8 u).2 = t) :
    Calls Tryz.prog 350 #[.pointer (some ⟨p, 0, none⟩)] w (TOut B p a len cap zs (itemA (exactG zs) A1 Ed Bk 0 t).1 (itemA (exactG zs) A1 Ed Bk 0 t).2 w) := by
  have HA := Lib.hid hA
  have HI := Lib.hid H
  have HO := Lib.hid hO
  have HU := Lib.hid hu
  have HK := Lib.hid hK
  have HT := Lib.hid ht
  clear hA H hO hu hK ht
  obtain ⟨K3, hK3⟩ : ∃ K3, ((exactG zs).bl 2 t).1 = K3 := ⟨_, rfl⟩
  have hk3 := exact_lt zs 2 t (by decide)
  rw [hK3] at hk3
  have HQ := Lib.hid (show itemA (exactG zs) A1 Ed Bk 0 t = (makeT (nodeO (40 + (K3 : Int)) 0) [(Bk ((exactG zs).bl 2 t).2).1], (Bk ((exactG zs).bl 2 t).2).2) by rw [← hK3]; rfl)
  have HK3 := Lib.hid hK3
  clear hK3
  go_enter Tryz.func350, Tryz.ntmps350
  go_wp2_with fail
  refine (bl_ok 2 (by decide) HO.out HI.out).mono ?_
  rintro e wz ⟨rfl, Iz, Gz⟩
  rw [HU.out] at Iz
  go_wp2_with fail
  refine (bl_ok 8 (by decide) HK.out Iz).mono ?_
  rintro e w0 ⟨rfl, I0, Gy⟩
  rw [HT.out] at I0
  have G0 := Lib.hid (grown_trans Gz Gy)
  have hZ0 := G0.out.size
  clear Iz Gz Gy
  go_wp2_with fail
  refine (bl_ok 2 (by decide) HK3.out I0).mono ?_
  rintro e w1 ⟨rfl, I1, G1⟩
  have GG1 := Lib.hid (grown_trans (G0.out) G1)
  have hZ1 := GG1.out.size
  clear G1
  go_wp2_with fail
  refine (HA.out.b _ _ I1).mono ?_
  rintro e w2 ⟨v2, rfl, T2, I2, G2⟩
  obtain ⟨a2, c2, rfl⟩ := T2.form
  have GG2 := Lib.hid (grown_trans (GG1.out) G2)
  have hZ2 := GG2.out.size
  clear G2
  have X2 := Lib.hid (TR.down T2 (S' := w.heap.size) (by omega) HI.out.lt)
  clear T2
  go_wp2_with fail
  refine (good_parts (n := nodeO (40 + (K3 : Int)) 0) (parts_of [.slice a2 _ c2] [(Bk ((exactG zs).bl 2 t).2).1] rfl (fun i h _ => by have e0 : i = 0 := (by simpa using h); subst e0; exact X2.out)) (fun q hq => by
      simp only [List.mem_cons, List.not_mem_nil, or_false] at hq
      rcases hq with rfl
      · exact HA.out.gb _
      ) (by simp)).mono ?_
  rintro e w3 hmk
  have HM := Lib.hid (TOut.make I2 HI.out.lt (GG2.out) ((Below.refl _ _).alloc (Nat.le_refl _) _) hmk)
  clear hmk
  obtain ⟨vz, rfl, _⟩ := HM.out
  go_wp2
  go_ret
  rw [HQ.out]
  exact HM.out
set_option maxHeartbeats 1600000 in
theorem item1 {w : World} {s u t : St} {K2 : Nat} (hA : Itm B p len cap a zs (1 + (K2 : Int)) A1 Ed Bk) (H : In B w p a len cap zs s) (hO : ((exactG zs).bl 2 s).1 = K2) (hk2 : K2 < 2) (hu : ((exactG zs).bl 2 s).2 = u) (hK : ((exactG zs).bl 8 u).1 = 1) (ht : ((exactG zs).bl 8 u).2 = t) :
    Calls Tryz.prog 350 #[.pointer (some ⟨p, 0, none⟩)] w (TOut B p a len cap zs (itemA (exactG zs) A1 Ed Bk 1 t).1 (itemA (exactG zs) A1 Ed Bk 1 t).2 w) := by
  have HA := Lib.hid hA
  have HI := Lib.hid H
  have HO := Lib.hid hO
  have HU := Lib.hid hu
  have HK := Lib.hid hK
  have HT := Lib.hid ht
  clear hA H hO hu hK ht
  go_enter Tryz.func350, Tryz.ntmps350
  go_wp2_with fail
  refine (bl_ok 2 (by decide) HO.out HI.out).mono ?_
  rintro e wz ⟨rfl, Iz, Gz⟩
  rw [HU.out] at Iz
  go_wp2_with fail
  refine (bl_ok 8 (by decide) HK.out Iz).mono ?_
  rintro e w0 ⟨rfl, I0, Gy⟩
  rw [HT.out] at I0
  have G0 := Lib.hid (grown_trans Gz Gy)
  have hZ0 := G0.out.size
  clear Iz Gz Gy
  go_wp2_with fail
  refine (HA.out.e _ _ I0).mono ?_
  rintro e w1 ⟨v1, rfl, T1, I1, G1⟩
  obtain ⟨a1, c1, rfl⟩ := T1.form
  have GG1 := Lib.hid (grown_trans (G0.out) G1)
  have hZ1 := GG1.out.size
  clear G1
  have X1 := Lib.hid (TR.down T1 (S' := w.heap.size) (by omega) HI.out.lt)
  clear T1
  go_wp2_with fail
  refine (good_parts (n := nodeO 42 1) (parts_of [.slice a1 _ c1] [(Ed t).1] rfl (fun i h _ => by have e0 : i = 0 := (by simpa using h); subst e0; exact X1.out)) (fun q hq => by
      simp only [List.mem_cons, List.not_mem_nil, or_false] at hq
      rcases hq with rfl
      · exact HA.out.ge _
      ) (by simp)).mono ?_
  rintro e w2 hmk
  have HM := Lib.hid (TOut.make I1 HI.out.lt (GG1.out) ((Below.refl _ _).alloc (Nat.le_refl _) _) hmk)
  clear hmk
  obtain ⟨vz, rfl, _⟩ := HM.out
  go_wp2
  go_ret
  exact HM.out
set_option maxHeartbeats 1600000 in
theorem item2 {w : World} {s u t : St} {K2 : Nat} (hA : Itm B p len cap a zs (1 + (K2 : Int)) A1 Ed Bk) (H : In B w p a len cap zs s) (hO : ((exactG zs).bl 2 s).1 = K2) (hk2 : K2 < 2) (hu : ((exactG zs).bl 2 s).2 = u) (hK : ((exactG zs).bl 8 u).1 = 2) (ht : ((exactG zs).bl 8 u).2 = t) :
    Calls Tryz.prog 350 #[.pointer (some ⟨p, 0, none⟩)] w (TOut B p a len cap zs (itemA (exactG zs) A1 Ed Bk 2 t).1 (itemA (exactG zs) A1 Ed Bk 2 t).2 w) := by
  have HA := Lib.hid hA
  have HI := Lib.hid H
  have HO := Lib.hid hO
  have HU := Lib.hid hu
  have HK := Lib.hid hK
  have HT := Lib.hid ht
  clear hA H hO hu hK ht
  go_enter Tryz.func350, Tryz.ntmps350
  go_wp2_with fail
  refine (bl_ok 2 (by decide) HO.out HI.out).mono ?_
  rintro e wz ⟨rfl, Iz, Gz⟩
  rw [HU.out] at Iz
  go_wp2_with fail
  refine (bl_ok 8 (by decide) HK.out Iz).mono ?_
  rintro e w0 ⟨rfl, I0, Gy⟩
  rw [HT.out] at I0
  have G0 := Lib.hid (grown_trans Gz Gy)
  have hZ0 := G0.out.size
  clear Iz Gz Gy
  go_wp2_with fail
  refine (HA.out.b _ _ I0).mono ?_
  rintro e w1 ⟨v1, rfl, T1, I1, G1⟩
  obtain ⟨a1, c1, rfl⟩ := T1.form
  have GG1 := Lib.hid (grown_trans (G0.out) G1)
  have hZ1 := GG1.out.size
  clear G1
  have X1 := Lib.hid (TR.down T1 (S' := w.heap.size) (by omega) HI.out.lt)
  clear T1
  go_wp2_with fail
  refine (good_parts (n := nodeO 42 2) (parts_of [.slice a1 _ c1] [(Bk t).1] rfl (fun i h _ => by have e0 : i = 0 := (by simpa using h); subst e0; exact X1.out)) (fun q hq => by
      simp only [List.mem_cons, List.not_mem_nil, or_false] at hq
      rcases hq with rfl
      · exact HA.out.gb _
      ) (by simp)).mono ?_
  rintro e w2 hmk
  have HM := Lib.hid (TOut.make I1 HI.out.lt (GG1.out) ((Below.refl _ _).alloc (Nat.le_refl _) _) hmk)
  clear hmk
  obtain ⟨vz, rfl, _⟩ := HM.out
  go_wp2
  go_ret
  exact HM.out
set_option maxHeartbeats 1600000 in
theorem item3 {w : World} {s u t : St} {K2 : Nat} (hA : Itm B p len cap a zs (1 + (K2 : Int)) A1 Ed Bk) (H : In B w p a len cap zs s) (hO : ((exactG zs).bl 2 s).1 = K2) (hk2 : K2 < 2) (hu : ((exactG zs).bl 2 s).2 = u) (hK : ((exactG zs).bl 8 u).1 = 3) (ht : ((exactG zs).bl 8 u).2 = t) :
    Calls Tryz.prog 350 #[.pointer (some ⟨p, 0, none⟩)] w (TOut B p a len cap zs (itemA (exactG zs) A1 Ed Bk 3 t).1 (itemA (exactG zs) A1 Ed Bk 3 t).2 w) := by
  have HA := Lib.hid hA
  have HI := Lib.hid H
  have HO := Lib.hid hO
  have HU := Lib.hid hu
  have HK := Lib.hid hK
  have HT := Lib.hid ht
  clear hA H hO hu hK ht
  go_enter Tryz.func350, Tryz.ntmps350
  go_wp2_with fail
  refine (bl_ok 2 (by decide) HO.out HI.out).mono ?_
  rintro e wz ⟨rfl, Iz, Gz⟩
  rw [HU.out] at Iz
  go_wp2_with fail
  refine (bl_ok 8 (by decide) HK.out Iz).mono ?_
  rintro e w0 ⟨rfl, I0, Gy⟩
  rw [HT.out] at I0
  have G0 := Lib.hid (grown_trans Gz Gy)
  have hZ0 := G0.out.size
  clear Iz Gz Gy
  go_wp2_with fail
  refine (HA.out.a1 _ _ I0).mono ?_
  rintro e w1 ⟨v1, rfl, T1, I1, G1⟩
  obtain ⟨a1, c1, rfl⟩ := T1.form
  have GG1 := Lib.hid (grown_trans (G0.out) G1)
  have hZ1 := GG1.out.size
  clear G1
  have X1 := Lib.hid (TR.down T1 (S' := w.heap.size) (by omega) HI.out.lt)
  clear T1
  go_wp2_with fail
  refine (HA.out.a1 _ _ I1).mono ?_
  rintro e w2 ⟨v2, rfl, T2, I2, G2⟩
  obtain ⟨a2, c2, rfl⟩ := T2.form
  have X1' := Lib.hid (X1.out.grown G2)
  clear X1
  have X1 := X1'
  clear X1'
  have GG2 := Lib.hid (grown_trans (GG1.out) G2)
  have hZ2 := GG2.out.size
  clear G2
  have X2 := Lib.hid (TR.down T2 (S' := w.heap.size) (by omega) HI.out.lt)
  clear T2
  go_wp2_with fail
  refine (good_parts (n := nodeO 43 1) (parts_of [.slice a1 _ c1, .slice a2 _ c2] [(A1 t).1, (A1 (A1 t).2).1] rfl (fun i h _ => by
      have e0 : i = 0 ∨ i = 1 := (by simp at h; omega)
      rcases e0 with rfl | rfl
      · exact X1.out
      · exact X2.out
      )) (fun q hq => by
      simp only [List.mem_cons, List.not_mem_nil, or_false] at hq
      rcases hq with rfl | rfl
      · exact HA.out.g1 _
      · exact HA.out.g1 _
      ) (by simp)).mono ?_
  rintro e w3 hmk
  have HM := Lib.hid (TOut.make I2 HI.out.lt (GG2.out) ((Below.refl _ _).alloc (Nat.le_refl _) _) hmk)
  clear hmk
  obtain ⟨vz, rfl, _⟩ := HM.out
  go_wp2
  go_ret
  exact HM.out
set_option maxHeartbeats 1600000 in
theorem item4 {w : World} {s u t : St} {K2 : Nat} (hA : Itm B p len cap a zs (1 + (K2 : Int)) A1 Ed Bk) (H : In B w p a len cap zs s) (hO : ((exactG zs).bl 2 s).1 = K2) (hk2 : K2 < 2) (hu : ((exactG zs).bl 2 s).2 = u) (hK : ((exactG zs).bl 8 u).1 = 4) (ht : ((exactG zs).bl 8 u).2 = t) :
    Calls Tryz.prog 350 #[.pointer (some ⟨p, 0, none⟩)] w (TOut B p a len cap zs (itemA (exactG zs) A1 Ed Bk 4 t).1 (itemA (exactG zs) A1 Ed Bk 4 t).2 w) := by
  have HA := Lib.hid hA
  have HI := Lib.hid H
  have HO := Lib.hid hO
  have HU := Lib.hid hu
  have HK := Lib.hid hK
  have HT := Lib.hid ht
  clear hA H hO hu hK ht
  go_enter Tryz.func350, Tryz.ntmps350
  go_wp2_with fail
  refine (bl_ok 2 (by decide) HO.out HI.out).mono ?_
  rintro e wz ⟨rfl, Iz, Gz⟩
  rw [HU.out] at Iz
  go_wp2_with fail
  refine (bl_ok 8 (by decide) HK.out Iz).mono ?_
  rintro e w0 ⟨rfl, I0, Gy⟩
  rw [HT.out] at I0
  have G0 := Lib.hid (grown_trans Gz Gy)
  have hZ0 := G0.out.size
  clear Iz Gz Gy
  go_wp2_with fail
  refine (HA.out.a1 _ _ I0).mono ?_
  rintro e w1 ⟨v1, rfl, T1, I1, G1⟩
  obtain ⟨a1, c1, rfl⟩ := T1.form
  have GG1 := Lib.hid (grown_trans (G0.out) G1)
  have hZ1 := GG1.out.size
  clear G1
  have X1 := Lib.hid (TR.down T1 (S' := w.heap.size) (by omega) HI.out.lt)
  clear T1
  go_wp2_with fail
  refine (HA.out.a1 _ _ I1).mono ?_
  rintro e w2 ⟨v2, rfl, T2, I2, G2⟩
  obtain ⟨a2, c2, rfl⟩ := T2.form
  have X1' := Lib.hid (X1.out.grown G2)
  clear X1
  have X1 := X1'
  clear X1'
  have GG2 := Lib.hid (grown_trans (GG1.out) G2)
  have hZ2 := GG2.out.size
  clear G2
  have X2 := Lib.hid (TR.down T2 (S' := w.heap.size) (by omega) HI.out.lt)
  clear T2
  go_wp2_with fail
  refine (HA.out.b _ _ I2).mono ?_
  rintro e w3 ⟨v3, rfl, T3, I3, G3⟩
  obtain ⟨a3, c3, rfl⟩ := T3.form
  have X1' := Lib.hid (X1.out.grown G3)
  clear X1
  have X1 := X1'
  clear X1'
  have X2' := Lib.hid (X2.out.grown G3)
  clear X2
  have X2 := X2'
  clear X2'
  have GG3 := Lib.hid (grown_trans (GG2.out) G3)
  have hZ3 := GG3.out.size
  clear G3
  have X3 := Lib.hid (TR.down T3 (S' := w.heap.size) (by omega) HI.out.lt)
  clear T3
  go_wp2_with fail
  refine (good_parts (n := nodeO 43 3) (parts_of [.slice a1 _ c1, .slice a2 _ c2, .slice a3 _ c3] [(A1 t).1, (A1 (A1 t).2).1, (Bk (A1 (A1 t).2).2).1] rfl (fun i h _ => by
      have e0 : i = 0 ∨ i = 1 ∨ i = 2 := (by simp at h; omega)
      rcases e0 with rfl | rfl | rfl
      · exact X1.out
      · exact X2.out
      · exact X3.out
      )) (fun q hq => by
      simp only [List.mem_cons, List.not_mem_nil, or_false] at hq
      rcases hq with rfl | rfl | rfl
      · exact HA.out.g1 _
      · exact HA.out.g1 _
      · exact HA.out.gb _
      ) (by simp)).mono ?_
  rintro e w4 hmk
  have HM := Lib.hid (TOut.make I3 HI.out.lt (GG3.out) ((Below.refl _ _).alloc (Nat.le_refl _) _) hmk)
  clear hmk
  obtain ⟨vz, rfl, _⟩ := HM.out
  go_wp2
  go_ret
  exact HM.out
set_option maxHeartbeats 1600000 in
theorem item5 {w : World} {s u t : St} {K2 : Nat} (hA : Itm B p len cap a zs (1 + (K2 : Int)) A1 Ed Bk) (H : In B w p a len cap zs s) (hO : ((exactG zs).bl 2 s).1 = K2) (hk2 : K2 < 2) (hu : ((exactG zs).bl 2 s).2 = u) (hK : ((exactG zs).bl 8 u).1 = 5) (ht : ((exactG zs).bl 8 u).2 = t) :
    Calls Tryz.prog 350 #[.pointer (some ⟨p, 0, none⟩)] w (TOut B p a len cap zs (itemA (exactG zs) A1 Ed Bk 5 t).1 (itemA (exactG zs) A1 Ed Bk 5 t).2 w) := by
  have HA := Lib.hid hA
  have HI := Lib.hid H
  have HO := Lib.hid hO
  have HU := Lib.hid hu
  have HK := Lib.hid hK
  have HT := Lib.hid ht
  clear hA H hO hu hK ht
  have HP := HI.out.lt
  have hb := exact_lt zs 3 t (by decide)
  obtain ⟨N, hN⟩ : ∃ N, ((exactG zs).bl 3 t).1 = N := ⟨_, rfl⟩
  obtain ⟨x, hx⟩ : ∃ x, ((exactG zs).bl 3 t).2 = x := ⟨_, rfl⟩
  rw [hN] at hb
  have HQ := Lib.hid (show itemA (exactG zs) A1 Ed Bk 5 t = (makeT (nodeS 44 (pkG (exactG zs) l7NameL (timesG (wordG (exactG zs)) N x).2).1) ((timesG (wordG (exactG zs)) N x).1 ++ [(Bk (pkG (exactG zs) l7NameL (timesG (wordG (exactG zs)) N x).2).2).1]), (Bk (pkG (exactG zs) l7NameL (timesG (wordG (exactG zs)) N x).2).2).2) by
    show funcG (exactG zs) Bk t = _
    unfold funcG
    rw [← hx, ← hN]
    rfl)
  have HN := Lib.hid hN
  have HX := Lib.hid hx
  clear hN hx
  go_enter Tryz.func350, Tryz.ntmps350
  go_wp2_with fail
  refine (bl_ok 2 (by decide) HO.out HI.out).mono ?_
  rintro e wz ⟨rfl, Iz, Gz⟩
  rw [HU.out] at Iz
  go_wp2_with fail
  refine (bl_ok 8 (by decide) HK.out Iz).mono ?_
  rintro e w0 ⟨rfl, I0, Gy⟩
  rw [HT.out] at I0
  have G0 := Lib.hid (grown_trans Gz Gy)
  have hZ0 := G0.out.size
  clear Iz Gz Gy
  have L0 := Lib.hid (LS.start I0 hZ0 HP)
  have HG0 := Lib.hid (grown_below G0.out ((Below.refl w.heap.size w0).alloc hZ0 (.cells #[] 29)) rfl)
  go_wp2_with fail
  refine (bl_ok 3 (by decide) HN.out L0.out.cur).mono ?_
  rintro e w1 ⟨rfl, I1, G1⟩
  rw [HX.out] at I1
  have L1 := Lib.hid (L0.out.next I1 G1)
  have HG1 := Lib.hid (grown_trans HG0.out G1)
  clear I1 G1
  go_wp2
  go_loopw [4, 5] (fun v n wr => RelList B p len cap a zs w (wordG (exactG zs)) N x v n wr) (fun _ n _ => (intOf n).toNat)
  case atStart => exact ⟨0, w0.heap.size, 0, [], by omega, by simp, rfl, L1.out, HG1.out⟩
  case round =>
    obtain ⟨I, g, c, vs, hI, rfl, rfl, hls, hgr⟩ := hrel
    have hvl := hls.ln
    rw [times_len] at hvl
    subst hvl
    have HL := Lib.hid hls
    have HG := Lib.hid hgr
    clear hls hgr
    by_cases hlt : vs.length < N
    · have hi : (vs.length : Int) < (N : Int) := by omega
      have hi2 : 0 < (N : Int) - (vs.length : Int) := by omega
      go_wp2_with fail
      refine (word_ok HL.out.cur).mono ?_
      rintro e w2 ⟨⟨rfl, I2, G2⟩, Z2⟩
      have L2 := Lib.hid (HL.out.next I2 G2)
      obtain ⟨y, hy⟩ : ∃ y, (pkG (exactG zs) l2WordL (timesG (wordG (exactG zs)) vs.length x).2).1 = y := ⟨_, rfl⟩
      have HT2 := Lib.hid (show TOut B p a len cap zs (leaf 1 y) (pkG (exactG zs) l2WordL (timesG (wordG (exactG zs)) vs.length x).2).2 wr _ _ from TOut.leaf0 1 y I2 HL.out.cur.lt G2)
      obtain ⟨v2, he2, T2, I3, G3⟩ := HT2.out
      injection he2 with he2
      subst he2
      have L3 := Lib.hid (HL.out.next I3 G3)
      have HT3 := Lib.hid T2
      have HG3 := Lib.hid (grown_trans HG.out G3)
      obtain ⟨wl, hwl⟩ : ∃ wl, wl = w2.alloc (.cells #[.int .i64 1, .int .i64 0, .string y, .string ⟨#[]⟩, .slice none 0 0] 60) := ⟨_, rfl⟩
      rw [← hwl] at L3 HT3 HG3
      have HWL := Lib.hid hwl
      have HWS := Lib.hid (show wl.heap.size = w2.heap.size + 1 by rw [hwl]; simp)
      have HY := Lib.hid hy
      clear T2 I3 G3 I2 G2 HT2 hwl
      rw [hy]
      clear hy
      go_wp2_with (first | (rw [← HWL.out]; refine wpList_append_tree _ _ rfl _ _ rfl w.heap.size (.slice (some ⟨g, 0, none⟩) vs.length c) vs rfl L3.out.own (by show Value.slice (some ⟨w2.heap.size + 1, 0, none⟩) 1 1 = _; rw [HWS.out]) rfl (by omega) L3.out.lw ?_; intro g3 c3 w3 own3 gr3 or3; have L4 := Lib.hid (L3.out.push HT3.out HL.out.g_lt.2 own3 gr3 (or3.imp (fun e => by simpa [Value.ownBlock] using e) id)); have HG4 := Lib.hid (L3.out.grown HG3.out (Nat.le_refl _) gr3)))
      go_roundw
      case rel =>
        refine ⟨vs.length + 1, g3, c3, vs ++ [.slice (some ⟨w2.heap.size, 0, none⟩) 1 1], by omega, by go_num, rfl, ?_⟩
        rw [times_snoc]
        rw [show (wordG (exactG zs) (timesG (wordG (exactG zs)) vs.length x).2) = (leaf 1 y, (pkG (exactG zs) l2WordL (timesG (wordG (exactG zs)) vs.length x).2).2) by rw [← HY.out]; rfl]
        exact ⟨L4.out, HG4.out⟩
      case measure => simp [intOf]; omega
    · obtain rfl : vs.length = N := by omega
      have hi2 : ¬ 0 < (vs.length : Int) - (vs.length : Int) := by omega
      have hgd := HL.out.g_lt
      go_wp2_with fail
      refine (pick_ok 3 l7NameL HL.out.cur rfl (by decide) (by decide)).mono ?_
      rintro e w2 ⟨⟨he, I2, G2⟩, Z2⟩
      obtain ⟨y, hy⟩ : ∃ y, (pkG (exactG zs) l7NameL (timesG (wordG (exactG zs)) vs.length x).2).1 = y := ⟨_, rfl⟩
      obtain ⟨z, hz⟩ : ∃ z, (pkG (exactG zs) l7NameL (timesG (wordG (exactG zs)) vs.length x).2).2 = z := ⟨_, rfl⟩
      rw [hy] at he HQ
      rw [hz] at I2 HQ
      subst he
      have L2 := Lib.hid (HL.out.next I2 G2)
      have HG2 := Lib.hid (grown_trans HG.out G2)
      clear I2 G2 hy hz
      go_wp2_with fail
      refine (HA.out.b _ _ L2.out.cur).mono ?_
      rintro e w3 ⟨u3, rfl, T3, I3, G3⟩
      obtain ⟨a3, c3, rfl⟩ := T3.form
      have L3 := Lib.hid (L2.out.next I3 G3)
      have HT3 := Lib.hid T3
      have HG3 := Lib.hid (grown_trans HG2.out G3)
      have HGL := Lib.hid L2.out.g_lt
      clear T3 I3 G3
      go_wp2_with (refine wpList_append_tree _ _ rfl _ _ rfl w.heap.size (.slice (some ⟨g, 0, none⟩) vs.length c) vs rfl L3.out.own rfl rfl (by omega) L3.out.lw ?_; intro g4 c4 w4 own4 gr4 or4; have L4 := Lib.hid (L3.out.push HT3.out HGL.out.2 own4 gr4 (or4.imp (fun e => by simpa [Value.ownBlock] using e) id)); have HG4 := Lib.hid (L3.out.grown HG3.out (Nat.le_refl _) gr4))
      refine (good_partsN (n := nodeS 44 y) (by simp [times_len]) L4.out.parts (fun q hq => by
        rcases List.mem_append.1 hq with h | h
        · exact times_all (fun s => (word_small zs s).good (by decide)) _ _ q h
        · rw [List.mem_singleton] at h; rw [h]; exact HA.out.gb _) (by simp [times_len]; omega)).mono ?_
      rintro e w5 hmk
      have HM := Lib.hid (TOut.make L4.out.cur HP HG4.out (Below.refl _ _) hmk)
      clear hmk
      obtain ⟨vz, rfl, _⟩ := HM.out
      go_wp2
      go_ret
      rw [HQ.out]
      exact HM.out
set_option maxHeartbeats 1600000 in
theorem item6 {w : World} {s u t : St} {K2 : Nat} (hA : Itm B p len cap a zs (1 + (K2 : Int)) A1 Ed Bk) (H : In B w p a len cap zs s) (hO : ((exactG zs).bl 2 s).1 = K2) (hk2 : K2 < 2) (hu : ((exactG zs).bl 2 s).2 = u) (hK : ((exactG zs).bl 8 u).1 = 6) (ht : ((exactG zs).bl 8 u).2 = t) :
    Calls Tryz.prog 350 #[.pointer (some ⟨p, 0, none⟩)] w (TOut B p a len cap zs (itemA (exactG zs) A1 Ed Bk 6 t).1 (itemA (exactG zs) A1 Ed Bk 6 t).2 w) := by
  have HA := Lib.hid hA
  have HI := Lib.hid H
  have HO := Lib.hid hO
  have HU := Lib.hid hu
  have HK := Lib.hid hK
  have HT := Lib.hid ht
  clear hA H hO hu hK ht
  go_enter Tryz.func350, Tryz.ntmps350
  go_wp2_with fail
  refine (bl_ok 2 (by decide) HO.out HI.out).mono ?_
  rintro e wz ⟨rfl, Iz, Gz⟩
  rw [HU.out] at Iz
  go_wp2_with fail
  refine (bl_ok 8 (by decide) HK.out Iz).mono ?_
  rintro e w0 ⟨rfl, I0, Gy⟩
  rw [HT.out] at I0
  have G0 := Lib.hid (grown_trans Gz Gy)
  have hZ0 := G0.out.size
  clear Iz Gz Gy
  go_wp2_with fail
  refine (pick_ok 2 l7TopL I0 rfl (by decide) (by decide)).mono ?_
  rintro e w1 ⟨⟨rfl, I1, G1⟩, Z1⟩
  have GG1 := Lib.hid (grown_trans (G0.out) G1)
  have hZ1 := GG1.out.size
  clear G1
  have HM := Lib.hid (TOut.leaf0 34 (pkG (exactG zs) l7TopL t).1 I1 HI.out.lt (GG1.out))
  go_wp2
  go_ret
  exact HM.out
set_option maxHeartbeats 1600000 in
theorem item7 {w : World} {s u t : St} {K2 : Nat} (hA : Itm B p len cap a zs (1 + (K2 : Int)) A1 Ed Bk) (H : In B w p a len cap zs s) (hO : ((exactG zs).bl 2 s).1 = K2) (hk2 : K2 < 2) (hu : ((exactG zs).bl 2 s).2 = u) (hK : ((exactG zs).bl 8 u).1 = 7) (ht : ((exactG zs).bl 8 u).2 = t) :
    Calls Tryz.prog 350 #[.pointer (some ⟨p, 0, none⟩)] w (TOut B p a len cap zs (itemA (exactG zs) A1 Ed Bk 7 t).1 (itemA (exactG zs) A1 Ed Bk 7 t).2 w) := by
  have HA := Lib.hid hA
  have HI := Lib.hid H
  have HO := Lib.hid hO
  have HU := Lib.hid hu
  have HK := Lib.hid hK
  have HT := Lib.hid ht
  clear hA H hO hu hK ht
  go_enter Tryz.func350, Tryz.ntmps350
  go_wp2_with fail
  refine (bl_ok 2 (by decide) HO.out HI.out).mono ?_
  rintro e wz ⟨rfl, Iz, Gz⟩
  rw [HU.out] at Iz
  go_wp2_with fail
  refine (bl_ok 8 (by decide) HK.out Iz).mono ?_
  rintro e w0 ⟨rfl, I0, Gy⟩
  rw [HT.out] at I0
  have G0 := Lib.hid (grown_trans Gz Gy)
  have hZ0 := G0.out.size
  clear Iz Gz Gy
  go_wp2_with fail
  refine (HA.out.e _ _ I0).mono ?_
  rintro e w1 ⟨v1, rfl, T1, I1, G1⟩
  obtain ⟨a1, c1, rfl⟩ := T1.form
  have GG1 := Lib.hid (grown_trans (G0.out) G1)
  have hZ1 := GG1.out.size
  clear G1
  have X1 := Lib.hid (TR.down T1 (S' := w.heap.size) (by omega) HI.out.lt)
  clear T1
  go_wp2_with fail
  refine (HA.out.b _ _ I1).mono ?_
  rintro e w2 ⟨v2, rfl, T2, I2, G2⟩
  obtain ⟨a2, c2, rfl⟩ := T2.form
  have X1' := Lib.hid (X1.out.grown G2)
  clear X1
  have X1 := X1'
  clear X1'
  have GG2 := Lib.hid (grown_trans (GG1.out) G2)
  have hZ2 := GG2.out.size
  clear G2
  have X2 := Lib.hid (TR.down T2 (S' := w.heap.size) (by omega) HI.out.lt)
  clear T2
  go_wp2_with fail
  refine (good_parts (n := nodeO 42 3) (parts_of [.slice a1 _ c1, .slice a2 _ c2] [(Ed t).1, (Bk (Ed t).2).1] rfl (fun i h _ => by
      have e0 : i = 0 ∨ i = 1 := (by simp at h; omega)
      rcases e0 with rfl | rfl
      · exact X1.out
      · exact X2.out
      )) (fun q hq => by
      simp only [List.mem_cons, List.not_mem_nil, or_false] at hq
      rcases hq with rfl | rfl
      · exact HA.out.ge _
      · exact HA.out.gb _
      ) (by simp)).mono ?_
  rintro e w3 hmk
  have HM := Lib.hid (TOut.make I2 HI.out.lt (GG2.out) ((Below.refl _ _).alloc (Nat.le_refl _) _) hmk)
  clear hmk
  obtain ⟨vz, rfl, _⟩ := HM.out
  go_wp2
  go_ret
  exact HM.out
end
end Go.Proofs.YtiilpnoaocfjgaaGreatDoor.draw

namespace Go.Proofs.YtiilpnoaocfjgaaGreatDoor.draw.sz
open nd lcg draw
set_option linter.unusedVariables false

/-- A node's texts are short. -/
def Sh (t : Nd) : Prop := t.s.size ≤ 16 ∧ t.t.size ≤ 16
/-- The same numbers; of a tree this alone: are all texts short? -/
def szG (zs : List Int) : Gen St Bool := ⟨(exactG zs).bl, fun n l => decide (n.s.size ≤ 16) && decide (n.t.size ≤ 16) && l.all id⟩
theorem go_str : ∀ (ps : List (List Nd)) (out : List Nd) (ks : List Int), (∀ q ∈ ps, ∀ t ∈ q, Sh t) → (∀ t ∈ out, Sh t) → ∀ t ∈ (makeGo ps out ks).1, Sh t := by
  intro ps
  induction ps with
  | nil => intro out ks _ h; exact h
  | cons q ps ih =>
    intro out ks h1 h2
    refine ih _ _ (fun q' hq => h1 q' (List.mem_cons_of_mem _ hq)) ?_
    intro t ht
    rcases List.mem_append.1 ht with ht | ht
    · exact h2 t ht
    · obtain ⟨t', ht', rfl⟩ := List.mem_map.1 ht
      exact h1 q (List.mem_cons_self ..) t' ht'
theorem all2_sh {l : List (List Nd)} {k : List Bool} (h : All2 (fun q b => b = true → ∀ t ∈ q, Sh t) l k) : k.all id = true → ∀ q ∈ l, ∀ t ∈ q, Sh t := by
  induction h with
  | nil => intro _ q hq; cases hq
  | cons h1 _ ih =>
    intro hk q hq
    simp only [List.all_cons, Bool.and_eq_true, id] at hk
    rcases List.mem_cons.1 hq with e | hq
    · rw [e]; exact h1 hk.1
    · exact ih hk.2 q hq
theorem exact_sz (zs : List Int) : Step (exactG zs) (szG zs) (fun s u => s = u) (fun q b => b = true → ∀ t ∈ q, Sh t) := by
  refine ⟨fun n s u h0 h1 h => by subst h; exact ⟨rfl, rfl⟩, fun n l k h hb t ht => ?_⟩
  have hb' : (decide (n.s.size ≤ 16) && decide (n.t.size ≤ 16) && k.all id) = true := hb
  simp only [Bool.and_eq_true, decide_eq_true_eq] at hb'
  have ht' : t ∈ (makeGo l [] []).1 ++ [{ n with kids := (makeGo l [] []).2 }] := ht
  rcases List.mem_append.1 ht' with ht | ht
  · exact go_str l [] [] (all2_sh h hb'.2) (fun t ht => by cases ht) t ht
  · rw [List.mem_singleton] at ht
    subst ht
    exact hb'.1
/-! ### They always are -/
def Tr1 (E : St → Bool × St) : Prop := ∀ s, (E s).1 = true
def Nd1 (g : Gen St Bool) : Prop := ∀ n l, n.s.size ≤ 16 → n.t.size ≤ 16 → l.all id = true → g.nd n l = true
theorem ndO {g : Gen St Bool} (H : Nd1 g) {k o : Int} {l : List Bool} (h : l.all id = true) : g.nd (nodeO k o) l = true := H _ _ (Nat.zero_le _) (Nat.zero_le _) h
theorem pk_sz {L : List ByteArray} (hL : L.all (fun x => decide (x.size ≤ 16)) = true) (g : Gen St Bool) (s : St) : (pkG g L s).1.size ≤ 16 := by
  show (L.getD _ _).size ≤ 16
  rw [List.getD_eq_getElem?_getD]
  cases e : L[(g.bl L.length s).1]? with
  | none => exact Nat.zero_le _
  | some x =>
    have := List.all_eq_true.1 hL x (List.mem_of_getElem? e)
    exact of_decide_eq_true this
theorem ndS {g : Gen St Bool} (H : Nd1 g) {k : Int} {L : List ByteArray} {s : St} {l : List Bool} (hL : L.all (fun x => decide (x.size ≤ 16)) = true) (h : l.all id = true) : g.nd (nodeS k (pkG g L s).1) l = true := H _ _ (pk_sz hL _ _) (Nat.zero_le _) h
theorem times1 {E : St → Bool × St} (h : Tr1 E) : ∀ n s, (timesG E n s).1.all id = true := by
  intro n
  induction n with
  | zero => intro s; rfl
  | succ n ih => intro s; simp only [timesG, List.all_cons, Bool.and_eq_true]; exact ⟨h s, ih _⟩
theorem list1 {g : Gen St Bool} {E : St → Bool × St} (h : Tr1 E) (a b : Nat) (s : St) : (listG g E a b s).1.all id = true := times1 h _ _
theorem one1 {b : Bool} (h : b = true) : [b].all id = true := by simp [h]
theorem two1 {b c : Bool} (h : b = true) (h2 : c = true) : [b, c].all id = true := by simp [h, h2]
theorem three1 {b c d : Bool} (h : b = true) (h2 : c = true) (h3 : d = true) : [b, c, d].all id = true := by simp [h, h2, h3]
theorem word1 {g : Gen St Bool} (H : Nd1 g) : Tr1 (wordG g) := fun s => ndS H (by decide) rfl
theorem leaf1 {g : Gen St Bool} (H : Nd1 g) : Tr1 (leafG g) := by
  intro s
  unfold leafG
  dsimp only
  generalize (g.bl 7 s).1 = b
  rcases b with _ | _ | _ | b
  all_goals try dsimp only
  · exact ndS H (by decide) rfl
  · exact ndS H (by decide) rfl
  · show (if (g.bl 2 (g.bl 7 s).2).1 = 0 then _ else _ : Bool × St).1 = true
    split
    · exact ndS H (by decide) rfl
    · exact word1 H _
  · exact word1 H _
section
variable {g : Gen St Bool} (H : Nd1 g) {E1 E2 E3 : St → Bool × St} (h1 : Tr1 E1) (h2 : Tr1 E2) (h3 : Tr1 E3)
include H h1 h2
theorem lval1 : Tr1 (lvalG g E1 E2) := by
  intro s
  unfold lvalG
  dsimp only
  generalize (g.bl 4 s).1 = b
  rcases b with _ | _ | b
  all_goals try dsimp only
  · exact ndS H (by decide) (one1 (h1 _))
  · exact ndO H (one1 (h2 _))
  · exact word1 H _
include h3
theorem step1 : Tr1 (stepG g E1 E2 E3) := by
  intro s
  unfold stepG
  dsimp only
  generalize (g.bl 2 s).1 = i
  generalize (g.bl 16 (g.bl 2 s).2).1 = b
  rcases b with _ | _ | _ | _ | _ | _ | _ | _ | _ | _ | _ | _ | b
  all_goals try dsimp only
  · exact leaf1 H _
  · exact lval1 H h1 h2 _
  · exact ndO H (one1 (h1 _))
  · exact ndS H (by decide) (list1 h1 _ _ _)
  · exact ndS H (by decide) (list1 h2 _ _ _)
  · exact ndO H (one1 (lval1 H h2 h3 _))
  · exact ndO H (one1 (lval1 H h2 h3 _))
  · exact ndO H (one1 (h1 _))
  · exact ndO H (one1 (h1 _))
  · exact ndS H (by decide) (list1 h1 _ _ _)
  · exact ndO H (three1 (h1 _) (h1 _) (h1 _))
  · exact ndO H (two1 (lval1 H h2 h3 _) (h1 _))
  · exact ndO H (two1 (h1 _) (h1 _))
end
theorem exprs1 {g : Gen St Bool} (H : Nd1 g) : ∀ d, Tr1 (exprs g d).1 ∧ Tr1 (exprs g d).2.1 ∧ Tr1 (exprs g d).2.2 := by
  intro d
  induction d with
  | zero => exact ⟨leaf1 H, leaf1 H, leaf1 H⟩
  | succ d ih => exact ⟨step1 H ih.1 ih.2.1 ih.2.2, ih.1, ih.2.1⟩
theorem expr1 {g : Gen St Bool} (H : Nd1 g) (d : Nat) : Tr1 (exprG g d) := (exprs1 H d).1
section
variable {g : Gen St Bool} (H : Nd1 g) {A B C : St → Bool × St} (ha : Tr1 A) (hb : Tr1 B) (hc : Tr1 C)
include H ha
theorem maybe1 : Tr1 (maybeG g A) := by
  intro s
  unfold maybeG
  split
  · exact ndO H rfl
  · exact ha _
theorem block1 : Tr1 (blockG g A) := fun s => ndO H (times1 ha _ _)
include hb
theorem simple1 : Tr1 (simpleG g A B) := by
  intro s
  have pr : ∀ u, ((fun (u : St) =>
    let o := g.bl 2 u
    let l := listG g A o.1 3 o.2
    let c := g.bl 3 l.2
    if c.1 = 0 then
      let x := pkG g l7OutL c.2
      let e := B x.2
      (g.nd ⟨21, (o.1 : Int), ⟨#[]⟩, x.1, []⟩ (l.1 ++ [e.1]), e.2)
    else (g.nd (nodeO 21 (o.1 : Int)) l.1, c.2)) u).1 = true := by
    intro u
    dsimp only
    split
    · exact H _ _ (Nat.zero_le _) (pk_sz (by decide) _ _) (by simp only [List.all_append, Bool.and_eq_true]; exact ⟨list1 ha _ _ _, one1 (hb _)⟩)
    · exact ndO H (list1 ha _ _ _)
  unfold simpleG
  dsimp only
  generalize (g.bl 9 s).1 = b
  rcases b with _ | _ | _ | _ | _ | _ | b
  all_goals try dsimp only
  · exact pr _
  · exact pr _
  · exact ndO H rfl
  · exact ndO H (list1 ha _ _ _)
  · exact ndS H (by decide) (list1 hb _ _ _)
  · show (if (g.bl 2 _).1 = 0 then _ else _ : Bool × St).1 = true
    split
    · exact ndS H (by decide) rfl
    · exact ndO H (one1 (ha _))
  · exact ndO H (one1 (ha _))
include hc
theorem comp1 : Tr1 (compG g A B C) := by
  intro s
  unfold compG
  dsimp only
  generalize (g.bl 6 s).1 = b
  rcases b with _ | _ | _ | _ | _ | b
  all_goals try dsimp only
  · exact ndO H (two1 (ha _) (hc _))
  · exact ndO H (three1 (ha _) (hc _) (hc _))
  · exact ndO H (two1 (ha _) (hc _))
  · exact ndO H (two1 (hc _) (ha _))
  · refine ndO H ?_
    simp only [List.all_cons, List.all_nil, Bool.and_eq_true, id]
    exact ⟨maybe1 H hb _, maybe1 H ha _, maybe1 H ha _, hc _, trivial⟩
  · show (if (g.bl 2 _).1 = 0 then _ else _ : Bool × St).1 = true
    split
    · exact hc _
    · exact H _ _ (pk_sz (by decide) _ _) (pk_sz (by decide) _ _) (one1 (hc _))
end
theorem stmt1 {g : Gen St Bool} (H : Nd1 g) : ∀ d, Tr1 (stmtG g d) := by
  intro d
  induction d with
  | zero => exact simple1 H (expr1 H 0) (expr1 H 0)
  | succ d ih =>
    intro s
    unfold stmtG
    split
    · exact comp1 H (expr1 H 1) (expr1 H 2) (block1 H ih) _
    · exact simple1 H (expr1 H _) (expr1 H _) _
theorem item1 {g : Gen St Bool} (H : Nd1 g) : Tr1 (itemG g) := by
  intro s
  unfold itemG
  dsimp only
  have hB : Tr1 (blockG g (stmtG g (1 + (g.bl 2 s).1))) := block1 H (stmt1 H _)
  have hE : Tr1 (exprG g (1 + (g.bl 2 s).1)) := expr1 H _
  have h1 : Tr1 (exprG g 1) := expr1 H 1
  generalize blockG g (stmtG g (1 + (g.bl 2 s).1)) = Bk at hB ⊢
  generalize exprG g (1 + (g.bl 2 s).1) = E at hE ⊢
  generalize (g.bl 8 (g.bl 2 s).2).1 = b
  rcases b with _ | _ | _ | _ | _ | _ | _ | b
  all_goals try dsimp only
  · exact ndO H (one1 (hB _))
  · exact ndO H (one1 (hE _))
  · exact ndO H (one1 (hB _))
  · exact ndO H (two1 (h1 _) (h1 _))
  · exact ndO H (three1 (h1 _) (h1 _) (hB _))
  · exact ndS H (by decide) (by simp only [List.all_append, Bool.and_eq_true]; exact ⟨times1 (word1 H) _ _, one1 (hB _)⟩)
  · exact ndS H (by decide) rfl
  · exact ndO H (two1 (hE _) (hB _))
theorem prog1 {g : Gen St Bool} (H : Nd1 g) : Tr1 (progG g) := fun s => ndO H (times1 (item1 H) _ _)
/-! ### So of the exact trees -/
theorem nd_sz (zs : List Int) : Nd1 (szG zs) := by
  intro n l h1 h2 h
  show (decide (n.s.size ≤ 16) && decide (n.t.size ≤ 16) && l.all id) = true
  rw [h, decide_eq_true h1, decide_eq_true h2]
  rfl
theorem expr_str (zs : List Int) (d : Nat) (s : St) : ∀ t ∈ (exprG (exactG zs) d s).1, Sh t := ((exact_sz zs).expr d s s rfl).1 (expr1 (nd_sz zs) d s)
theorem stmt_str (zs : List Int) (d : Nat) (s : St) : ∀ t ∈ (stmtG (exactG zs) d s).1, Sh t := ((exact_sz zs).stmt d s s rfl).1 (stmt1 (nd_sz zs) d s)
theorem item_str (zs : List Int) (s : St) : ∀ t ∈ (itemG (exactG zs) s).1, Sh t := ((exact_sz zs).item s s rfl).1 (item1 (nd_sz zs) s)
theorem prog_str (zs : List Int) (s : St) : ∀ t ∈ (progG (exactG zs) s).1, Sh t := ((exact_sz zs).prog s s rfl).1 (prog1 (nd_sz zs) s)
end Go.Proofs.YtiilpnoaocfjgaaGreatDoor.draw.sz

namespace Go.Proofs.YtiilpnoaocfjgaaGreatDoor.draw
open Go.ChangeShapes Go.WideShapes Go.ChangeAt Go.RowKit
open nd lcg
open sz (Sh expr_str stmt_str prog_str)
set_option linter.unusedVariables false
set_option maxRecDepth 20000

section
variable {B p len cap : Nat} {a : Option Addr} {zs : List Int}
theorem item_ok {w : World} {s : St} (H : In B w p a len cap zs s) :
    Calls Tryz.prog 350 #[.pointer (some ⟨p, 0, none⟩)] w (TOut B p a len cap zs (itemG (exactG zs) s).1 (itemG (exactG zs) s).2 w) := by
  obtain ⟨K2, hO⟩ : ∃ K, ((exactG zs).bl 2 s).1 = K := ⟨_, rfl⟩
  obtain ⟨u, hu⟩ : ∃ u, ((exactG zs).bl 2 s).2 = u := ⟨_, rfl⟩
  obtain ⟨K, hK⟩ : ∃ K, ((exactG zs).bl 8 u).1 = K := ⟨_, rfl⟩
  obtain ⟨t, ht⟩ : ∃ t, ((exactG zs).bl 8 u).2 = t := ⟨_, rfl⟩
  have hk2 := exact_lt zs 2 s (by decide)
  have hb := exact_lt zs 8 u (by decide)
  rw [item_arm, hO, hu, hK, ht]
  rw [hO] at hk2
  rw [hK] at hb
  have z1 : SmE 21 (exprG (exactG zs) 1) := ((exprs_small zs 1).1).mono (by decide)
  have z2 : SmE 21 (exprG (exactG zs) 2) := ((exprs_small zs 2).1).mono (by decide)
  have hA : Itm B p len cap a zs (1 + (K2 : Int)) (exprG (exactG zs) 1) (exprG (exactG zs) (1 + K2)) (blockG (exactG zs) (stmtG (exactG zs) (1 + K2))) := by
    rcases (show K2 = 0 ∨ K2 = 1 by omega) with rfl | rfl
    · obtain ⟨q1, q2⟩ := stmt_all B p len cap a zs 1 (by decide)
      exact ⟨by decide, by decide, expr_ok 1 (by decide) B p len cap a zs, expr_ok 1 (by decide) B p len cap a zs, block_ok (D := 1) (by decide) q1 q2 (by decide), z1, z1, (block_small q2).mono (by decide)⟩
    · obtain ⟨q1, q2⟩ := stmt_all B p len cap a zs 2 (by decide)
      exact ⟨by decide, by decide, expr_ok 1 (by decide) B p len cap a zs, expr_ok 2 (by decide) B p len cap a zs, block_ok (D := 2) (by decide) q1 q2 (by decide), z1, z2, (block_small q2).mono (by decide)⟩
  rcases (show K = 0 ∨ K = 1 ∨ K = 2 ∨ K = 3 ∨ K = 4 ∨ K = 5 ∨ K = 6 ∨ K = 7 by omega) with rfl | rfl | rfl | rfl | rfl | rfl | rfl | rfl
  · exact item0 hA H hO hk2 hu hK ht
  · exact item1 hA H hO hk2 hu hK ht
  · exact item2 hA H hO hk2 hu hK ht
  · exact item3 hA H hO hk2 hu hK ht
  · exact item4 hA H hO hk2 hu hK ht
  · exact item5 hA H hO hk2 hu hK ht
  · exact item6 hA H hO hk2 hu hK ht
  · exact item7 hA H hO hk2 hu hK ht
theorem itemA_small {A1 Ed Bk : St → List Nd × St} (h1 : SmE 5000 A1) (he : SmE 5000 Ed) (hb : SmE 5000 Bk) (b : Nat) (t : St) : Small 15001 (itemA (exactG zs) A1 Ed Bk b t).1 := by
  rcases b with _ | _ | _ | _ | _ | _ | _ | b
  · exact (sm1 _ (hb _)).mono (by decide)
  · exact (sm1 _ (he _)).mono (by decide)
  · exact (sm1 _ (hb _)).mono (by decide)
  · exact (sm_list (m := 2) _ (sm_cons (h1 _) (sm_cons (h1 _) sm_nil)) (by decide)).mono (by decide)
  · exact (sm_list (m := 3) _ (sm_cons (h1 _) (sm_cons (h1 _) (sm_cons (hb _) sm_nil))) (by decide)).mono (by decide)
  · have h3 := exact_lt zs 3 t (by decide)
    obtain ⟨l1, l2⟩ := times_small (word_small zs) ((exactG zs).bl 3 t).1 ((exactG zs).bl 3 t).2
    refine sm_list (k := 5000) (m := 3) _ ⟨fun q hq => ?_, by simp; omega⟩ (by decide)
    rcases List.mem_append.1 hq with h | h
    · exact (l1 q h).mono (by decide)
    · rw [List.mem_singleton] at h; rw [h]; exact hb _
  · exact (sm0 _).mono (by decide)
  · exact (sm_list (m := 2) _ (sm_cons (he _) (sm_cons (hb _) sm_nil)) (by decide)).mono (by decide)
theorem item_small : SmE 15001 (itemG (exactG zs)) := by
  intro s
  have hk2 := exact_lt zs 2 s (by decide)
  rw [item_arm]
  have z1 : SmE 5000 (exprG (exactG zs) 1) := ((exprs_small zs 1).1).mono (by decide)
  have z2 : SmE 5000 (exprG (exactG zs) 2) := ((exprs_small zs 2).1).mono (by decide)
  obtain ⟨K2, hO⟩ : ∃ K, ((exactG zs).bl 2 s).1 = K := ⟨_, rfl⟩
  rw [hO] at hk2
  rw [hO]
  rcases (show K2 = 0 ∨ K2 = 1 by omega) with rfl | rfl
  · exact itemA_small z1 z1 ((block_small (stmt_all 0 0 0 0 none zs 1 (by decide)).2).mono (by decide)) _ _
  · exact itemA_small z1 z2 ((block_small (stmt_all 0 0 0 0 none zs 2 (by decide)).2).mono (by decide)) _ _

/-! ### How many rounds are left -/
theorem least {P : Nat → Prop} (h : ∃ k, P k) : ∃ k, P k ∧ ∀ j, P j → k ≤ j := by
  obtain ⟨k, hk⟩ := h
  have key : ∀ n k, k ≤ n → P k → ∃ k, P k ∧ ∀ j, P j → k ≤ j := by
    intro n
    induction n with
    | zero => intro k hkn hk; exact ⟨k, hk, fun j _ => by omega⟩
    | succ n ih =>
      intro k hkn hk
      by_cases hj : ∃ j, j < k ∧ P j
      · obtain ⟨j, h1, h2⟩ := hj
        exact ih j (by omega) h2
      · exact ⟨k, hk, fun j hpj => by
          rcases Nat.lt_or_ge j k with h | h
          · exact absurd ⟨j, h, hpj⟩ hj
          · exact h⟩
  exact key k k (Nat.le_refl _) hk
noncomputable def mu {α : Type} (f : α → Bool × α) (he : ∀ s, ∃ k, EndsIn f k s) (s : α) : Nat := Classical.choose (least (he s))
theorem mu_step {α : Type} (f : α → Bool × α) (he : ∀ s, ∃ k, EndsIn f k s) (s : α) (h : (f s).1 = false) : mu f he (f s).2 < mu f he s := by
  have h1 := Classical.choose_spec (least (he s))
  have h2 := Classical.choose_spec (least (he (f s).2))
  show Classical.choose (least (he (f s).2)) < Classical.choose (least (he s))
  generalize Classical.choose (least (he (f s).2)) = k2 at h2
  generalize Classical.choose (least (he s)) = k1 at h1
  cases k1 with
  | zero => exact absurd h1.1 (fun e => e)
  | succ n =>
    rcases h1.1 with e | e
    · rw [h] at e; cases e
    · have := h2.2 n e
      omega
/-- Where the cursor at p stands. -/
def curOf (w : World) (p : Nat) : St :=
  match w.heap[p]? with
  | some (Obj.cells c _ _) => (match c[1]?, c[2]? with
    | some (Value.int _ i), some (Value.int _ h) => (i.toNat, h)
    | _, _ => (0, 0))
  | _ => (0, 0)
theorem cur_of {w : World} {s : St} (H : In B w p a len cap zs s) : curOf w p = s := by
  have h := H.cur
  unfold Cur at h
  unfold curOf
  rw [h]
  obtain ⟨i, h⟩ := s
  simp
def RelRed (B p len cap : Nat) (a : Option Addr) (zs : List Int) (W wr : World) : Prop := ∃ s, In B wr p a len cap zs s ∧ W.grownBy wr (some p)
/-- Some small tree; a binary operation in it has no more than two kids. -/
def TAnyX (B p : Nat) (a : Option Addr) (len cap : Nat) (zs : List Int) (w : World) (e : Ending) (w' : World) : Prop :=
  ∃ q s', TOut B p a len cap zs q s' w e w' ∧ Small 2300 q ∧ (∀ t ∈ q, Sh t) ∧ ∀ t ∈ q, ar.Ar t
/-- Some small tree. -/
def TAny (B p : Nat) (a : Option Addr) (len cap : Nat) (zs : List Int) (w : World) (e : Ending) (w' : World) : Prop :=
  ∃ q s', TOut B p a len cap zs q s' w e w' ∧ Small 2300 q ∧ ∀ t ∈ q, Sh t
theorem TAnyX.any {B p : Nat} {a : Option Addr} {len cap : Nat} {zs : List Int} {w : World} {e : Ending} {w' : World} (h : TAnyX B p a len cap zs w e w') : TAny B p a len cap zs w e w' := by
  obtain ⟨q, s', h1, h2, h3, _⟩ := h
  exact ⟨q, s', h1, h2, h3⟩

set_option maxHeartbeats 1600000 in
theorem some_okx {w : World} {s : St} (H : In B w p a len cap zs s) :
    Calls Tryz.prog 150 #[.pointer (some ⟨p, 0, none⟩)] w (TAnyX B p a len cap zs w) := by
  have HI := Lib.hid H
  have HP := H.lt
  clear H
  go_enter Tryz.func150, Tryz.ntmps150
  go_wp2
  go_loopw [3] (fun _ wr => RelRed B p len cap a zs w wr) (fun _ wr => mu (rdE 60 (someG (exactG zs))) (some_every zs) (curOf wr p))
  case atStart => exact ⟨s, HI.out, grown_refl⟩
  case round =>
    obtain ⟨s', hI, hG⟩ := hrel
    have HIr := Lib.hid hI
    have HGr := Lib.hid hG
    clear hI hG
    obtain ⟨K, hK⟩ : ∃ K, ((exactG zs).bl 4 s').1 = K := ⟨_, rfl⟩
    obtain ⟨u, hu⟩ : ∃ u, ((exactG zs).bl 4 s').2 = u := ⟨_, rfl⟩
    have hk := exact_lt zs 4 s' (by decide)
    rw [hK] at hk
    have HQ := Lib.hid (show someG (exactG zs) s' = exprG (exactG zs) (1 + K) u by unfold someG; rw [hK, hu])
    have HK := Lib.hid hK
    have HU := Lib.hid hu
    have hsm : Small 300 (exprG (exactG zs) (1 + K) u).1 := ((exprs_small zs (1 + K)).1 u).mono (by rcases (show K = 0 ∨ K = 1 ∨ K = 2 ∨ K = 3 by omega) with rfl | rfl | rfl | rfl <;> decide)
    have HSM := Lib.hid hsm
    have HZ : (exprG (exactG zs) (1 + K) u).1.length ≤ 300 := hsm.2.1
    have hE := expr_ok (1 + K) (by omega) B p len cap a zs
    rw [show (((1 + K : Nat)) : Int) = 1 + (K : Int) by omega] at hE
    have HE := Lib.hid hE
    clear hK hu hsm hE
    go_wp2_with fail
    refine (bl_ok 4 (by decide) HK.out HIr.out).mono ?_
    rintro e w1 ⟨rfl, I1, G1⟩
    rw [HU.out] at I1
    have G1' := Lib.hid (grown_trans HGr.out G1)
    clear G1
    go_wp2_with fail
    refine (HE.out _ _ I1).mono ?_
    rintro e w2 ⟨v, rfl, T2, I2, G2⟩
    obtain ⟨a2, c2, rfl⟩ := T2.form
    have HM := Lib.hid (show TOut B p a len cap zs (exprG (exactG zs) (1 + K) u).1 (exprG (exactG zs) (1 + K) u).2 w _ w2 from TOut.back G1'.out HP ⟨_, rfl, T2, I2, G2⟩)
    have HI2 := Lib.hid I2
    have HG2 := Lib.hid (grown_trans G1'.out G2)
    obtain ⟨n, hn⟩ : ∃ n, (exprG (exactG zs) (1 + K) u).1.length = n := ⟨_, rfl⟩
    have HN := Lib.hid hn
    rw [hn] at HM HZ ⊢
    clear T2 I2 G2 I1 hn
    by_cases hlt : n ≤ 60
    · have hi : (n : Int) ≤ 60 := by omega
      go_wp2
      go_ret
      exact ⟨_, _, HM.out, HSM.out.mono (by decide), expr_str zs _ _, ar.expr_ar zs _ _⟩
    · have hi : ¬ (n : Int) ≤ 60 := by omega
      go_wp2
      go_roundw
      case rel => exact ⟨_, HI2.out, HG2.out⟩
      case measure =>
        rw [cur_of HIr.out, cur_of HI2.out]
        have h := mu_step (rdE 60 (someG (exactG zs))) (some_every zs) s' (by
          show Nat.ble (someG (exactG zs) s').1.length 60 = false
          rw [HQ.out, HN.out]
          cases hb : Nat.ble n 60 with
          | false => rfl
          | true => exact absurd (Nat.le_of_ble_eq_true hb) hlt)
        have e2 : (rdE 60 (someG (exactG zs)) s').2 = (exprG (exactG zs) (1 + K) u).2 := by
          show (someG (exactG zs) s').2 = _
          rw [HQ.out]
        rw [e2] at h
        exact h
theorem some_ok {w : World} {s : St} (H : In B w p a len cap zs s) :
    Calls Tryz.prog 150 #[.pointer (some ⟨p, 0, none⟩)] w (TAny B p a len cap zs w) :=
  (some_okx H).mono fun _ _ h => h.any
end
end Go.Proofs.YtiilpnoaocfjgaaGreatDoor.draw

namespace Go.Proofs.YtiilpnoaocfjgaaGreatDoor.draw
open Go.ChangeShapes Go.WideShapes Go.ChangeAt Go.RowKit
open nd lcg
open sz (Sh expr_str stmt_str prog_str)
set_option linter.unusedVariables false
set_option maxRecDepth 20000

section
variable {B p len cap : Nat} {a : Option Addr} {zs : List Int}
set_option maxHeartbeats 3200000 in
theorem prog_okx {w : World} {s : St} (H : In B w p a len cap zs s) :
    Calls Tryz.prog 308 #[.pointer (some ⟨p, 0, none⟩)] w (TAnyX B p a len cap zs w) := by
  have HI := Lib.hid H
  have HP := H.lt
  clear H
  go_enter Tryz.func308, Tryz.ntmps308
  go_wp2
  go_loopw [3, 4, 5] (fun _ _ _ wr => RelRed B p len cap a zs w wr) (fun _ _ _ wr => mu (rdE 220 (progG (exactG zs))) (prog_every zs) (curOf wr p))
  case atStart => exact ⟨s, HI.out, grown_refl⟩
  case round =>
    obtain ⟨wr0, rfl⟩ : ∃ wo : World, wo = wr := ⟨_, rfl⟩
    obtain ⟨s', hI, hG⟩ := hrel
    have HIr := Lib.hid hI
    have HGr := Lib.hid hG
    have HPr := hI.lt
    clear hI hG
    have hb := exact_lt zs 4 s' (by decide)
    obtain ⟨N, hN⟩ : ∃ N, ((exactG zs).bl 4 s').1 = N := ⟨_, rfl⟩
    obtain ⟨t, ht⟩ : ∃ t, ((exactG zs).bl 4 s').2 = t := ⟨_, rfl⟩
    rw [hN] at hb
    have HN := Lib.hid hN
    have HT := Lib.hid ht
    have HQ := Lib.hid (show progG (exactG zs) s' = (makeT (nodeO 45 0) (timesG (itemG (exactG zs)) N t).1, (timesG (itemG (exactG zs)) N t).2) by unfold progG; rw [hN, ht]; rfl)
    clear hN ht
    have L0 := Lib.hid (LS.start HIr.out (Nat.le_refl _) HPr)
    have HG0 := Lib.hid (grown_below (p := p) grown_refl ((Below.refl wr0.heap.size wr0).alloc (Nat.le_refl _) (.cells #[] 29)) rfl)
    go_wp2_with fail
    refine (bl_ok 4 (by decide) HN.out L0.out.cur).mono ?_
    rintro e w1 ⟨rfl, I1, G1⟩
    rw [HT.out] at I1
    have L1 := Lib.hid (L0.out.next I1 G1)
    have HG1 := Lib.hid (grown_trans HG0.out G1)
    clear I1 G1
    go_wp2
    go_loopw [3, 4] (fun v n wr => RelList B p len cap a zs wr0 (itemG (exactG zs)) N t v n wr) (fun _ n _ => (intOf n).toNat)
    case atStart => exact ⟨0, wr0.heap.size, 0, [], by omega, by simp, rfl, L1.out, HG1.out⟩
    case round =>
      obtain ⟨I, g, c, vs, hI, rfl, rfl, hls, hgr⟩ := hrel
      have hvl := hls.ln
      rw [times_len] at hvl
      subst hvl
      have HL := Lib.hid hls
      have HG := Lib.hid hgr
      clear hls hgr
      by_cases hlt : vs.length < N
      · have hi : (vs.length : Int) < (N : Int) := by omega
        have hi2 : 0 < (N : Int) - (vs.length : Int) := by omega
        go_wp2_with fail
        refine (item_ok HL.out.cur).mono ?_
        rintro e w2 ⟨u, rfl, T2, I2, G2⟩
        obtain ⟨au, cu, rfl⟩ := T2.form
        have L2 := Lib.hid (HL.out.next I2 G2)
        have HT2 := Lib.hid T2
        have HG2 := Lib.hid (grown_trans HG.out G2)
        clear T2 I2 G2
        go_wp2_with (refine wpList_append_tree _ _ rfl _ _ rfl wr0.heap.size (.slice (some ⟨g, 0, none⟩) vs.length c) vs rfl L2.out.own rfl rfl (by omega) L2.out.lw ?_; intro g3 c3 w3 own3 gr3 or3; have L3 := Lib.hid (L2.out.push HT2.out HL.out.g_lt.2 own3 gr3 (or3.imp (fun e => by simpa [Value.ownBlock] using e) id)); have HG3 := Lib.hid (L2.out.grown HG2.out (Nat.le_refl _) gr3))
        go_roundw
        case rel =>
          refine ⟨vs.length + 1, g3, c3, vs ++ [.slice au (itemG (exactG zs) (timesG (itemG (exactG zs)) vs.length t).2).1.length cu], by omega, by go_num, rfl, ?_⟩
          rw [times_snoc]
          exact ⟨L3.out, HG3.out⟩
        case measure => simp [intOf]; omega
      · obtain rfl : vs.length = N := by omega
        have hi2 : ¬ 0 < (vs.length : Int) - (vs.length : Int) := by omega
        have HZ : (makeT (nodeO 45 0) (timesG (itemG (exactG zs)) vs.length t).1).length ≤ 45004 := by
          have h := sm_list (k := 15001) (m := 3) (nodeO 45 0) ⟨(times_small (item_small (zs := zs)) vs.length t).1, Nat.le_trans (times_small (item_small (zs := zs)) vs.length t).2 (by omega)⟩ (by decide)
          exact h.2.1
        have HSM := Lib.hid (sm_list (k := 15001) (m := 3) (nodeO 45 0) ⟨(times_small (item_small (zs := zs)) vs.length t).1, Nat.le_trans (times_small (item_small (zs := zs)) vs.length t).2 (by omega)⟩ (by decide))
        go_wp2_with fail
        refine (good_partsN (n := nodeO 45 0) (by rw [times_len]) HL.out.parts (times_all (fun s => (item_small (zs := zs) s).good (by decide)) _ _) (by rw [times_len]; omega)).mono ?_
        rintro e w4 hmk
        have HM := Lib.hid (TOut.make HL.out.cur HPr HG.out (Below.refl _ _) hmk)
        clear hmk
        obtain ⟨vz, rfl, T4, I4, G4⟩ := HM.out
        obtain ⟨a4, c4, rfl⟩ := T4.form
        have HM2 := Lib.hid (TOut.back HGr.out HP HM.out)
        have HI4 := Lib.hid I4
        have HG4 := Lib.hid (grown_trans HGr.out G4)
        obtain ⟨n, hn⟩ : ∃ n, (makeT (nodeO 45 0) (timesG (itemG (exactG zs)) vs.length t).1).length = n := ⟨_, rfl⟩
        have HNN := Lib.hid hn
        rw [hn] at HM2 HZ ⊢
        clear T4 I4 G4 HM hn
        by_cases hle : n ≤ 220
        · have hi : (n : Int) ≤ 220 := by omega
          go_wp2
          go_ret
          exact ⟨_, _, HM2.out, ⟨HSM.out.1, by rw [HNN.out]; omega, HSM.out.2.2⟩, by have h := prog_str zs s'; rw [HQ.out] at h; exact h, by have h := ar.prog_ar zs s'; rw [HQ.out] at h; exact h⟩
        · have hi : ¬ (n : Int) ≤ 220 := by omega
          go_wp2
          go_roundw
          case rel => exact ⟨_, HI4.out, HG4.out⟩
          case measure =>
            rw [cur_of HIr.out, cur_of HI4.out]
            have h := mu_step (rdE 220 (progG (exactG zs))) (prog_every zs) s' (by
              show Nat.ble (progG (exactG zs) s').1.length 220 = false
              rw [HQ.out, HNN.out]
              cases hb : Nat.ble n 220 with
              | false => rfl
              | true => exact absurd (Nat.le_of_ble_eq_true hb) hle)
            have e2 : (rdE 220 (progG (exactG zs)) s').2 = (timesG (itemG (exactG zs)) vs.length t).2 := by
              show (progG (exactG zs) s').2 = _
              rw [HQ.out]
            rw [e2] at h
            exact h
theorem any_okx {w : World} {s : St} (H : In B w p a len cap zs s) :
    Calls Tryz.prog 235 #[.pointer (some ⟨p, 0, none⟩)] w (TAnyX B p a len cap zs w) := by
  have HI := Lib.hid H
  have HP := H.lt
  clear H
  obtain ⟨K, hK⟩ : ∃ K, ((exactG zs).bl 5 s).1 = K := ⟨_, rfl⟩
  obtain ⟨t, ht⟩ : ∃ t, ((exactG zs).bl 5 s).2 = t := ⟨_, rfl⟩
  have hk := exact_lt zs 5 s (by decide)
  rw [hK] at hk
  have HK := Lib.hid hK
  have HT := Lib.hid ht
  clear hK ht
  have HS2 := Lib.hid (stmt_all B p len cap a zs 2 (by decide))
  go_enter Tryz.func235, Tryz.ntmps235
  go_wp2_with fail
  refine (bl_ok 5 (by decide) HK.out HI.out).mono ?_
  rintro e w1 ⟨rfl, I1, G1⟩
  rw [HT.out] at I1
  have HI1 := Lib.hid I1
  have HG1 := Lib.hid G1
  clear I1 G1
  have hs : ∀ (e : Ending) (w2 : World), TAnyX B p a len cap zs w1 e w2 → TAnyX B p a len cap zs w e w2 := by
    rintro e w2 ⟨q, s', h1, h2⟩
    exact ⟨q, s', TOut.back HG1.out HP h1, h2⟩
  have HSS := Lib.hid hs
  clear hs
  rcases (show K = 0 ∨ K = 1 ∨ K = 2 ∨ K = 3 ∨ K = 4 by omega) with rfl | rfl | rfl | rfl | rfl
  · go_wp2_with fail
    refine (some_okx HI1.out).mono ?_
    rintro e w2 hT
    have HM := Lib.hid (HSS.out _ _ hT)
    obtain ⟨q, s', ⟨v, rfl, T2, I2, G2⟩, _⟩ := hT
    obtain ⟨a2, c2, rfl⟩ := T2.form
    go_wp2
    go_ret
    exact HM.out
  · go_wp2_with fail
    refine (some_okx HI1.out).mono ?_
    rintro e w2 hT
    have HM := Lib.hid (HSS.out _ _ hT)
    obtain ⟨q, s', ⟨v, rfl, T2, I2, G2⟩, _⟩ := hT
    obtain ⟨a2, c2, rfl⟩ := T2.form
    go_wp2
    go_ret
    exact HM.out
  · go_wp2_with fail
    refine (HS2.out.1 _ _ HI1.out).mono ?_
    rintro e w2 hT
    have HM := Lib.hid (HSS.out _ _ ⟨_, _, hT, (HS2.out.2 _).mono (by decide), stmt_str zs 2 _, ar.stmt_ar zs 2 _⟩)
    obtain ⟨v, rfl, T2, I2, G2⟩ := hT
    obtain ⟨a2, c2, rfl⟩ := T2.form
    go_wp2
    go_ret
    exact HM.out
  · go_wp2_with fail
    refine (prog_okx HI1.out).mono ?_
    rintro e w2 hT
    have HM := Lib.hid (HSS.out _ _ hT)
    obtain ⟨q, s', ⟨v, rfl, T2, I2, G2⟩, _⟩ := hT
    obtain ⟨a2, c2, rfl⟩ := T2.form
    go_wp2
    go_ret
    exact HM.out
  · go_wp2_with fail
    refine (prog_okx HI1.out).mono ?_
    rintro e w2 hT
    have HM := Lib.hid (HSS.out _ _ hT)
    obtain ⟨q, s', ⟨v, rfl, T2, I2, G2⟩, _⟩ := hT
    obtain ⟨a2, c2, rfl⟩ := T2.form
    go_wp2
    go_ret
    exact HM.out
theorem prog_ok {w : World} {s : St} (H : In B w p a len cap zs s) :
    Calls Tryz.prog 308 #[.pointer (some ⟨p, 0, none⟩)] w (TAny B p a len cap zs w) :=
  (prog_okx H).mono fun _ _ h => h.any
theorem any_ok {w : World} {s : St} (H : In B w p a len cap zs s) :
    Calls Tryz.prog 235 #[.pointer (some ⟨p, 0, none⟩)] w (TAny B p a len cap zs w) :=
  (any_okx H).mono fun _ _ h => h.any
end
end Go.Proofs.YtiilpnoaocfjgaaGreatDoor.draw

namespace Go.Proofs.YtiilpnoaocfjgaaGreatDoor.draw
open Go.ChangeShapes Go.WideShapes Go.ChangeAt Go.RowKit
open nd lcg
open sz (Sh expr_str stmt_str prog_str)
set_option linter.unusedVariables false
set_option maxRecDepth 20000

theorem neF {x c : Int} (h : ¬ x = c) : (x == c) = false ∧ (x != c) = true := by simp [h]
theorem In.drew1 {B p len cap : Nat} {w : World} {a : Option Addr} {zs : List Int} {s : Nat × Int} (H : In B w p a len cap zs s) : In B w.drew p a len cap zs s :=
  ⟨H.code.keep ⟨rfl, rfl, rfl, Nat.le_refl _, fun _ _ => rfl⟩, H.cur, H.le, H.used, H.small⟩
/-- Nodes that lie beside the cursor's block. -/
def IntsX (p B : Nat) (w : World) (a : Option Addr) (l : List Int) : Prop :=
  l = [] ∨ ∃ b o, a = some ⟨b, o, none⟩ ∧ b < B ∧ b ≠ p ∧ ∀ i (h : i < l.length), w.cell? ⟨b, o + i, none⟩ = some (.int .i64 l[i])
def LiesX (p B : Nat) (w : World) (a : Option Addr) (l : List Nd) : Prop :=
  l = [] ∨ ∃ b o, a = some ⟨b, o, none⟩ ∧ b < B ∧ b ≠ p ∧ ∀ i (h : i < l.length), ∃ ak ck, Five w b (o + i * 5) l[i] ak ck ∧ IntsX p B w ak l[i].kids
theorem IBlk.intsX {p : Nat} {w : World} {g n : Nat} {l : List Int} (h : IBlk w g n l) (hp : g ≠ p) : IntsX p w.heap.size w (some ⟨g, 0, none⟩) l :=
  .inr ⟨g, 0, rfl, h.lt, hp, fun i hi => by rw [Nat.zero_add]; exact h.at i hi⟩
theorem OwnI.intsX {p B : Nat} {a : Option Addr} {n cap : Nat} {l : List Int} {w : World} (h : OwnI B (.slice a n cap) l w) (hp : (Value.slice a n cap).ownBlock ≠ some p) : IntsX p w.heap.size w a l := by
  rcases h.blk with ⟨_, h1⟩ | ⟨g, c, hv, _, h1⟩
  · exact .inl h1
  · injection hv with hv _ _
    subst hv
    exact IBlk.intsX h1 (fun e => hp (by rw [e]; rfl))
theorem IntsX.grown {p : Nat} {w w' : World} {a : Option Addr} {l : List Int} (h : IntsX p w.heap.size w a l) (hg : w.grownBy w' (some p)) : IntsX p w'.heap.size w' a l := by
  rcases h with h | ⟨b, o, rfl, h1, h2, h3⟩
  · exact .inl h
  · exact .inr ⟨b, o, rfl, Nat.lt_of_lt_of_le h1 hg.size, h2, fun i hi => World.grownBy.cell hg (h3 i hi) (fun e => h2 (by injection e))⟩
theorem LiesX.grown {p : Nat} {w w' : World} {a : Option Addr} {l : List Nd} (h : LiesX p w.heap.size w a l) (hg : w.grownBy w' (some p)) : LiesX p w'.heap.size w' a l := by
  rcases h with h | ⟨b, o, rfl, h1, h2, h3⟩
  · exact .inl h
  · refine .inr ⟨b, o, rfl, Nat.lt_of_lt_of_le h1 hg.size, h2, fun i hi => ?_⟩
    obtain ⟨ak, ck, ⟨c0, c1, c2, c3, c4⟩, h4⟩ := h3 i hi
    have hne : ∀ j, some (⟨b, j, none⟩ : Addr).block ≠ some p := fun j e => h2 (by injection e)
    exact ⟨ak, ck, ⟨World.grownBy.cell hg c0 (hne _), World.grownBy.cell hg c1 (hne _), World.grownBy.cell hg c2 (hne _), World.grownBy.cell hg c3 (hne _), World.grownBy.cell hg c4 (hne _)⟩, h4.grown hg⟩
theorem LiesX.lies {p B : Nat} {w : World} {a : Option Addr} {l : List Nd} (h : LiesX p B w a l) : Lies B w a l := by
  rcases h with h | ⟨b, o, rfl, h1, h2, h3⟩
  · exact .inl h
  · refine .inr ⟨b, o, rfl, h1, fun i hi => ?_⟩
    obtain ⟨ak, ck, h5, h4⟩ := h3 i hi
    exact ⟨ak, ck, h5, h4.imp id (fun ⟨b, o, e, h1, _, h3⟩ => ⟨b, o, e, h1, h3⟩)⟩
theorem LiesX.take {p B : Nat} {w : World} {a : Option Addr} {l : List Nd} (h : LiesX p B w a l) (k : Nat) : LiesX p B w a (l.take k) := by
  rcases h with h | ⟨b, o, rfl, h1, h2, h3⟩
  · exact .inl (by rw [h]; simp)
  · refine .inr ⟨b, o, rfl, h1, h2, fun i hi => ?_⟩
    rw [List.getElem_take]
    exact h3 i _
/-- Some nodes, not many. -/
def Wild (q : List Nd) : Prop := q.length ≤ 4600 ∧ (∀ t ∈ q, t.kids.length ≤ 1001) ∧ ∀ t ∈ q, Sh t
def BOut (B p : Nat) (a : Option Addr) (len cap : Nat) (zs : List Int) (w : World) (e : Ending) (w' : World) : Prop :=
  ∃ q a2 c2 s', e = .returned (.slice a2 q.length c2) ∧ LiesX p w'.heap.size w' a2 q ∧ q.length ≤ c2 ∧ Wild q ∧ In B w' p a len cap zs s' ∧ w.grownBy w' (some p)
/-- A drawn tree as a block. -/
theorem TR.row {p S : Nat} {v : Value} {q : List Nd} {w : World} (h : TR p S v q w) (h0 : 0 < q.length) : ∃ g c z r, v = .slice (some ⟨g, 0, none⟩) q.length c ∧ q.length ≤ c ∧ S ≤ g ∧ g < w.heap.size ∧ p < S ∧ z.map (·.1) = q ∧ z.length = q.length ∧ PT S (.slice (some ⟨g, 0, none⟩) q.length c) z r w ∧ ∀ i (h : i < z.length), z[i].2 ≠ .slice none 0 0 → r i ≠ p ∧ S ≤ r i := by
  obtain ⟨h1, z, r, hz, hp, hr⟩ := h
  have hl : z.length = q.length := by rw [← hz, List.length_map]
  rcases hp.own.2 with ⟨_, hn⟩ | ⟨g, c, cur, rfl, hg, hblk, hlc, _⟩
  · omega
  · refine ⟨g, c, z, r, by rw [hl], by omega, hg, lt_of_heap hblk, h1, hz, hl, by rw [← hl]; exact hp, fun i hi hne => ⟨hr i hi hne, ?_⟩⟩
    rcases hp.kid i hi with hk | ⟨_, _, _, e3, _⟩
    · exact absurd hk.1 hne
    · exact e3
/-- The cells of node i. -/
theorem pt_five {S g n c : Nat} {z : List (Nd × Value)} {r : Nat → Nat} {w : World} (h : PT S (.slice (some ⟨g, 0, none⟩) n c) z r w) {i : Nat} (hi : i < z.length) :
    w.cell? ⟨g, i * 5, none⟩ = some (.int .i64 z[i].1.k) ∧ w.cell? ⟨g, i * 5 + 1, none⟩ = some (.int .i64 z[i].1.op) ∧ w.cell? ⟨g, i * 5 + 2, none⟩ = some (.string z[i].1.s) ∧ w.cell? ⟨g, i * 5 + 3, none⟩ = some (.string z[i].1.t) ∧ w.cell? ⟨g, i * 5 + 4, none⟩ = some z[i].2 := by
  obtain ⟨a, c2, e⟩ := h.form
  injection e with e1 e2 e3
  subst e2 e3
  have hc := fun j hj => World.ownsRow.cellAt h.own j hj
  obtain ⟨x0, x1, x2, x3, x4⟩ := fl_get z i hi
  exact ⟨(hc _ (by omega)).trans x0, (hc _ (by omega)).trans x1, (hc _ (by omega)).trans x2, (hc _ (by omega)).trans x3, (hc _ (by omega)).trans x4⟩
/-- One node's kids are others now. -/
theorem bent_lies {p S g n c k : Nat} {z : List (Nd × Value)} {r : Nat → Nat} {w w5 : World} (h : PT S (.slice (some ⟨g, 0, none⟩) n c) z r w) (hk : k < z.length) (hg : g < w5.heap.size) (hgp : g ≠ p) (m : List Int) (a' : Option Addr) (c' : Nat)
    (h1 : ∀ j v, j ≠ k * 5 + 4 → w.cell? ⟨g, j, none⟩ = some v → w5.cell? ⟨g, j, none⟩ = some v) (h2 : w5.cell? ⟨g, k * 5 + 4, none⟩ = some (.slice a' m.length c')) (h3 : IntsX p w5.heap.size w5 a' m)
    (h4 : ∀ i (hi : i < z.length), i ≠ k → z[i].2 ≠ .slice none 0 0 → w5.heap[r i]? = w.heap[r i]? ∧ r i ≠ p) : LiesX p w5.heap.size w5 (some ⟨g, 0, none⟩) ((z.map (·.1)).set k { z[k].1 with kids := m }) := by
  refine .inr ⟨g, 0, rfl, hg, hgp, fun i hi => ?_⟩
  simp only [List.length_set, List.length_map] at hi
  obtain ⟨f0, f1, f2, f3, f4⟩ := pt_five h hi
  rw [Nat.zero_add]
  by_cases he : k = i
  · subst he
    simp only [List.getElem_set_self]
    exact ⟨a', c', ⟨h1 _ _ (by omega) f0, h1 _ _ (by omega) f1, h1 _ _ (by omega) f2, h1 _ _ (by omega) f3, h2⟩, h3⟩
  · simp only [List.getElem_set_ne he, List.getElem_map]
    rcases h.kid i hi with ⟨e1, e2⟩ | ⟨cap, e1, e2, e3⟩
    · exact ⟨none, 0, ⟨h1 _ _ (by omega) f0, h1 _ _ (by omega) f1, h1 _ _ (by omega) f2, h1 _ _ (by omega) f3, by rw [h1 _ _ (by omega) f4, e1, e2]; rfl⟩, .inl e2⟩
    · have e4 := h4 i hi (fun e => he e.symm) (by rw [e1]; simp)
      exact ⟨_, cap, ⟨h1 _ _ (by omega) f0, h1 _ _ (by omega) f1, h1 _ _ (by omega) f2, h1 _ _ (by omega) f3, by rw [h1 _ _ (by omega) f4, e1]⟩, IBlk.intsX (e2.of_block e4.1) e4.2⟩
/-- None of them changed. -/
theorem pt_lies {p S g n c : Nat} {z : List (Nd × Value)} {r : Nat → Nat} {w : World} (h : PT S (.slice (some ⟨g, 0, none⟩) n c) z r w) (hg : g < w.heap.size) (hgp : g ≠ p)
    (h4 : ∀ i (hi : i < z.length), z[i].2 ≠ .slice none 0 0 → r i ≠ p) : LiesX p w.heap.size w (some ⟨g, 0, none⟩) (z.map (·.1)) := by
  refine .inr ⟨g, 0, rfl, hg, hgp, fun i hi => ?_⟩
  simp only [List.length_map] at hi
  obtain ⟨f0, f1, f2, f3, f4⟩ := pt_five h hi
  rw [Nat.zero_add]
  simp only [List.getElem_map]
  rcases h.kid i hi with ⟨e1, e2⟩ | ⟨cap, e1, e2, e3⟩
  · exact ⟨none, 0, ⟨f0, f1, f2, f3, by rw [f4, e1, e2]; rfl⟩, .inl e2⟩
  · exact ⟨_, cap, ⟨f0, f1, f2, f3, by rw [f4, e1]⟩, IBlk.intsX e2 (h4 i hi (by rw [e1]; simp))⟩
/-- The same nodes once more behind themselves. -/
theorem twice_lies {p S g n c g2 c2 : Nat} {z : List (Nd × Value)} {r : Nat → Nat} {w w5 : World} (h : PT S (.slice (some ⟨g, 0, none⟩) n c) z r w) (ho : w5.ownsRow S 60 5 (.slice (some ⟨g2, 0, none⟩) (z.length + z.length) c2) (z.length + z.length) (fl z ++ fl z))
    (hgp : g2 ≠ p) (h4 : ∀ i (hi : i < z.length), z[i].2 ≠ .slice none 0 0 → w5.heap[r i]? = w.heap[r i]? ∧ r i ≠ p) : LiesX p w5.heap.size w5 (some ⟨g2, 0, none⟩) (z.map (·.1) ++ z.map (·.1)) := by
  rw [← fl_append] at ho
  refine .inr ⟨g2, 0, rfl, (World.ownsRow.lt ho g2 rfl).2, hgp, fun i hi => ?_⟩
  simp only [List.length_append, List.length_map] at hi
  have hi2 : i < (z ++ z).length := by simpa using hi
  have hc := fun j hj => World.ownsRow.cellAt ho j hj
  obtain ⟨x0, x1, x2, x3, x4⟩ := fl_get (z ++ z) i hi2
  obtain ⟨j, hj, e⟩ : ∃ j, ∃ hj : j < z.length, (z ++ z)[i] = z[j] := by
    by_cases he : i < z.length
    · exact ⟨i, he, List.getElem_append_left he⟩
    · exact ⟨i - z.length, by omega, List.getElem_append_right (by omega)⟩
  have e2 : (z.map (·.1) ++ z.map (·.1))[i]'(by simpa using hi) = z[j].1 := by
    have : (z.map (·.1) ++ z.map (·.1))[i]'(by simpa using hi) = ((z ++ z).map (·.1))[i]'(by simpa using hi) := by simp only [List.map_append]
    rw [this, List.getElem_map, e]
  rw [e2, Nat.zero_add]
  rw [e] at x0 x1 x2 x3 x4
  have c0 := (hc _ (by omega)).trans x0
  have c1 := (hc _ (by omega)).trans x1
  have c2' := (hc _ (by omega)).trans x2
  have c3 := (hc _ (by omega)).trans x3
  have c4 := (hc _ (by omega)).trans x4
  rcases h.kid j hj with ⟨e1, e2⟩ | ⟨cap, e1, e5, e3⟩
  · exact ⟨none, 0, ⟨c0, c1, c2', c3, by rw [c4, e1, e2]; rfl⟩, .inl e2⟩
  · have e6 := h4 j hj (by rw [e1]; simp)
    exact ⟨_, cap, ⟨c0, c1, c2', c3, by rw [c4, e1]⟩, IBlk.intsX (e5.of_block e6.1) e6.2⟩
/-- 'append(l, v)' as a step of a region that draws its order: where the new row lies. -/
theorem step_append_int2 {ops : Array Oper} {o : Oper} {a : Act} {w : World} {K : Act → World → Prop} {Q : Exit → Act → World → Prop} {E : Prop} (hgd : o.guard = none) (s x : Operand)
    (ho : o.op = .call { callee := .builtin .append, args := #[s, x], argTypes := #[53, 53] }) (B : Nat) (v : Value) (d : List Int) (z : Int) (hs : a.eval s = v)
    (hown : OwnI B v d w) (gz : Nat) (hx : a.eval x = .slice (some ⟨gz, 0, none⟩) 1 1) (hz : w.heap[gz]? = some (.cells #[.int .i64 z] 3 (0, 0))) (hn : d.length ≤ 1048576) (hB : B ≤ w.heap.size)
    (h : ∀ g cap w', OwnI B (.slice (some ⟨g, 0, none⟩) (d.length + 1) cap) (d ++ [z]) w' → w.grownBy w' v.ownBlock → (v.ownBlock = some g ∨ w.heap.size ≤ g) → K (a.put o.dst (.slice (some ⟨g, 0, none⟩) (d.length + 1) cap)) w') :
    if Region.wanted o (yielded ops a.tmps) = true then Oper.wp Tryz.prog o a w K Q else E := by
  obtain ⟨i0, hi, hz0, hz1, hz2⟩ := info_parts Tryz.infoInt
  refine step_append_lies w hgd s x 53 ho B 3 i0 _ 1 8 Tryz.underlying53 hi hz0 hz1 hz2 rfl (by decide) v d.length (ivals d) hs hown ⟨gz, 0, none⟩ 1 1 [.int .i64 z] hx rfl ?_ ?_ (by decide) (by unfold maxLen; omega) (by omega) hB _ rfl ?_
  · intro j u hj
    rw [show ((⟨gz, 0, none⟩ : Addr).add j) = ⟨gz, j, none⟩ by unfold Addr.add; split <;> simp_all]
    rw [cell_of_row _ gz j _ _ _ hz]
    simpa using hj
  · intro u hu
    simp at hu
    rcases hu with rfl <;> rfl
  · intro g cap w' hown' hg hor _
    refine h g cap w' ?_ hg (hor.imp id (fun e => by omega))
    unfold OwnI
    rw [ivals_snoc, List.length_append]
    exact hown'
section
variable {B p len cap : Nat} {a : Option Addr} {zs : List Int}
theorem wild_of {q : List Nd} (h : Small 2300 q) (hs : ∀ t ∈ q, Sh t) : Wild q := ⟨by have := h.2.1; omega, fun t ht => by have := h.2.2 t ht; omega, hs⟩
theorem wild_set {q : List Nd} (h : Small 2300 q) (hs : ∀ t ∈ q, Sh t) {k : Nat} (t : Nd) (ht : t.kids.length ≤ 1001) (hst : Sh t) : Wild (q.set k t) := by
  refine ⟨by rw [List.length_set]; have := h.2.1; omega, fun u hu => ?_, fun u hu => ?_⟩
  · rcases List.mem_or_eq_of_mem_set hu with hu | rfl
    · have := h.2.2 u hu; omega
    · exact ht
  · rcases List.mem_or_eq_of_mem_set hu with hu | rfl
    · exact hs u hu
    · exact hst
theorem pick4 {w : World} {s : St} (k : Int) (H : In B w p a len cap zs s) :
    Calls Tryz.prog 111 #[.pointer (some ⟨p, 0, none⟩), .slice (some ⟨w.heap.size, 0, none⟩) 4 4] (w.alloc (.cells #[.int .i64 (-1), .int .i64 k, .int .i64 0, .int .i64 99] 3)) (fun e w' => ∃ x s', e = .returned (.int .i64 x) ∧ In B w' p a len cap zs s' ∧ w.grownBy w' (some p)) := by
  refine (pickInt_lit 4 [-1, k, 0, 99] H rfl (by decide) (by decide)).mono ?_
  rintro e w' ⟨⟨rfl, hI, hG⟩, _⟩
  exact ⟨_, _, rfl, hI, hG⟩
theorem below1 {w : World} {s : St} (k : Nat) (H : In B w p a len cap zs s) :
    Calls Tryz.prog 108 #[.pointer (some ⟨p, 0, none⟩), .int .i64 ((k : Int) + 1)] w (fun e w' => ∃ (x : Nat) (s' : St), x ≤ k ∧ e = .returned (.int .i64 (x : Int)) ∧ In B w' p a len cap zs s' ∧ w.grownBy w' (some p)) := by
  have hb := exact_lt zs (k + 1) s (by omega)
  have h := bl_ok (K := ((exactG zs).bl (k + 1) s).1) (k + 1) (by omega) rfl H
  rw [show (((k + 1 : Nat)) : Int) = (k : Int) + 1 by omega] at h
  refine h.mono ?_
  rintro e w' ⟨rfl, hI, hG⟩
  exact ⟨_, _, by omega, rfl, hI, hG⟩
theorem grown_drew {w w1 : World} (h : w.grownBy w1 (some p)) : w.grownBy w1.drew (some p) := ⟨h.os, h.tape, h.output, h.size, h.block⟩

set_option maxHeartbeats 3200000 in
theorem bent_ok {w : World} {s : St} (H : In B w p a len cap zs s) :
    Calls Tryz.prog 236 #[.pointer (some ⟨p, 0, none⟩)] w (BOut B p a len cap zs w) := by
  have HI := Lib.hid H
  have HP := H.lt
  clear H
  go_enter Tryz.func236, Tryz.ntmps236
  go_wp2_with fail
  refine (any_ok HI.out).mono ?_
  rintro e w1 ⟨q, s1, ⟨v, rfl, T1, I1, G1⟩, hsm, hsh⟩
  obtain ⟨g, c, z, r, rfl, hcq, hSg, hgw, hpS, hz, hzl, hpt, hr⟩ := T1.row hsm.1
  have hq0 := hsm.1
  have hq1 := hsm.2.1
  have HSM := Lib.hid hsm
  have HSH := Lib.hid hsh
  have HG1 := Lib.hid G1
  have HI1 := Lib.hid I1
  obtain ⟨n, hn⟩ : ∃ n, q.length = n := ⟨_, rfl⟩
  have HZ := Lib.hid hz
  have HN := Lib.hid hn
  have HPT1 := Lib.hid hpt
  have HR := Lib.hid hr
  rw [hn] at hcq hzl HPT1 hq0 hq1 ⊢
  obtain ⟨k, hk⟩ : ∃ k, ((exactG zs).bl n s1).1 = k := ⟨_, rfl⟩
  have hkn := exact_lt zs n s1 (by omega)
  rw [hk] at hkn
  have HK := Lib.hid hk
  clear T1 I1 G1 hsm hsh hz hn hpt hr hk
  go_wp2_with fail
  refine (bl_ok n (by omega) HK.out HI1.out).mono ?_
  rintro e w2 ⟨rfl, I2, G2⟩
  obtain ⟨s2, hs2⟩ : ∃ s2, ((exactG zs).bl n s1).2 = s2 := ⟨_, rfl⟩
  rw [hs2] at I2
  obtain ⟨K, hK⟩ : ∃ K, ((exactG zs).bl 12 s2).1 = K := ⟨_, rfl⟩
  have hK12 := exact_lt zs 12 s2 (by decide)
  rw [hK] at hK12
  have HKK := Lib.hid hK
  have HI2 := Lib.hid I2
  have HG2 := Lib.hid G2
  clear I2 G2 hs2 hK
  go_wp2_with fail
  refine (bl_ok 12 (by decide) HKK.out HI2.out).mono ?_
  rintro e w3 ⟨rfl, I3, G3⟩
  obtain ⟨s3, hs3⟩ : ∃ s3, ((exactG zs).bl 12 s2).2 = s3 := ⟨_, rfl⟩
  rw [hs3] at I3
  have HI3 := Lib.hid I3
  have HG13 := Lib.hid (grown_trans HG2.out G3)
  have HG3 := Lib.hid (grown_trans HG1.out HG13.out)
  have hgp : g ≠ p := by omega
  have HPT := Lib.hid (pt_kept2 HPT1.out HG13.out (by simp only [Value.ownBlock]; intro e; injection e with e; exact hgp e) (fun i hi hne => (HR.out i hi hne).1))
  have hg3 : g < w3.heap.size := Nat.lt_of_lt_of_le hgw HG13.out.size
  clear I3 G3 hs3
  have HSZ := Lib.hid HG3.out.size
  have HLI := Lib.hid (show LiesX p w3.heap.size w3 (some ⟨g, 0, none⟩) q by rw [← HZ.out]; exact pt_lies HPT.out hg3 hgp (fun i hi hne => (HR.out i hi hne).1))
  obtain ⟨cur, hcur⟩ : ∃ cur, w3.heap[g]? = some (.cells cur 60 (0, 0)) := by
    rcases HPT.out.own.2 with ⟨h, _⟩ | ⟨g', cap', cur, h, _, hb, _⟩
    · cases h
    · injection h with h _ _
      injection h with h
      injection h with h _ _
      exact ⟨cur, by rw [h]; exact hb⟩
  have HCUR := Lib.hid hcur
  have hkz : k < z.length := by omega
  obtain ⟨f0, f1, f2, f3, f4⟩ := pt_five HPT.out hkz
  obtain ⟨ak, ck, hvk, _⟩ := (HPT.out.kid k hkz).form
  have hqk : z[k].1 ∈ q := by rw [← HZ.out]; exact List.mem_map.2 ⟨_, List.getElem_mem hkz, rfl⟩
  have hkl : z[k].1.kids.length ≤ 1000 := HSM.out.2.2 _ hqk
  have HSK := Lib.hid (HSH.out _ hqk)
  have HKID := Lib.hid (HPT.out.kid k hkz)
  have HOFF := Lib.hid (HPT.out.off k hkz)
  have HKR := Lib.hid (HR.out k hkz)
  obtain ⟨t, ht⟩ : ∃ t, t = z[k].1 := ⟨_, rfl⟩
  rw [← ht] at hvk hkl HKID
  rw [hvk] at f4 HKID HKR
  have HT := Lib.hid ht
  have hk0 : (0 : Int) ≤ (k : Int) := by omega
  have hk1 : (k : Int) < (n : Int) := by omega
  clear f0 f1 f2 f3 hcur hqk ht
  rcases (show K = 0 ∨ K = 1 ∨ K = 2 ∨ K = 3 ∨ 4 ≤ K by omega) with rfl | rfl | rfl | rfl | hK4
  · go_wp2
    go_ret
    refine ⟨q.take k, some ⟨g, 0, none⟩, c, s3, by rw [List.length_take, HN.out, Nat.min_eq_left (by omega)]; rfl, ?_, by rw [List.length_take]; omega, ⟨by rw [List.length_take]; omega, fun t ht => by have := HSM.out.2.2 t (List.mem_of_mem_take ht); omega, fun t ht => HSH.out t (List.mem_of_mem_take ht)⟩, HI3.out, HG3.out⟩
    exact HLI.out.take k
  · have HOWN := Lib.hid (show OwnI w.heap.size (.slice ak t.kids.length ck) t.kids w3.drew from HKID.out.own)
    have hob : (Value.slice ak t.kids.length ck).ownBlock = none ∨ ((Value.slice ak t.kids.length ck).ownBlock = some (r k) ∧ r k ≠ p ∧ r k ≠ g ∧ w.heap.size ≤ r k) := by
      rcases HKID.out with ⟨e, _⟩ | ⟨cap, e, _, h3, _⟩
      · left; rw [e]; rfl
      · right
        refine ⟨by rw [e]; rfl, (HKR.out (by rw [e]; simp)).1, fun e2 => HOFF.out (by rw [e2]; rfl), h3⟩
    have hop : (Value.slice ak t.kids.length ck).ownBlock ≠ some p := by
      rcases hob with e | ⟨e, h1, _⟩
      · rw [e]; simp
      · rw [e]; intro e2; injection e2 with e2; exact h1 e2
    have hog : (Value.slice ak t.kids.length ck).ownBlock ≠ some g := by
      rcases hob with e | ⟨e, _, h1, _⟩
      · rw [e]; simp
      · rw [e]; intro e2; injection e2 with e2; exact h1 e2
    have HPC := Lib.hid (pick4 (k : Int) HI3.out.drew1)
    have f4d : w3.drew.cell? ⟨g, k * 5 + 4, none⟩ = some (.slice ak t.kids.length ck) := f4
    have f4a : ∀ z, (w3.drew.alloc z).cell? ⟨g, k * 5 + 4, none⟩ = some (.slice ak t.kids.length ck) := fun z => cell_past z f4d
    have HOB := Lib.hid hob
    have HOP := Lib.hid hop
    have HOG := Lib.hid hog
    clear hob hop hog
    go_wp2
    go_region_law (first
      | (refine step_append_int2 (by rfl) _ _ (by rfl) w.heap.size _ t.kids x (by rfl) (OWN4.out.alloc _) w4.heap.size (by rfl) (by exact heap_alloc_new w4 _) (by omega) (by simp; exact Nat.le_succ_of_le SZ4.out) ?_
         intro g2 c2 w6 own6 gr6 or6
         have HC6 : w6.heap[g]? = some (.cells cur 60 (0, 0)) := (gr6.block g (by simp; exact Nat.lt_succ_of_lt (lt_of_heap HC4.out)) (fun e => HOG.out e.symm)).trans ((Below.heap_alloc w4 _ g (lt_of_heap HC4.out)).trans HC4.out)
         have Y4 : w6.cell? ⟨g, k * 5 + 4, none⟩ = some (.slice ak t.kids.length ck) := (World.cell?_of_block (a := ⟨g, k * 5 + 4, none⟩) (HC6.trans HCUR.out.symm)).trans f4
         have Y5 : w6.frozen? ⟨g, k * 5 + 4, none⟩ = false := frozen_of_row _ _ _ _ _ HC6)
      | (go_simp
         go_at_call 111
         refine HPC.out.mono ?_
         rintro e w4 ⟨x, s4, rfl, I4, G4⟩
         have HC4 := Lib.hid ((G4.block g hg3 (fun e => hgp (by injection e))).trans HCUR.out)
         have OWN4 := Lib.hid (OwnI.kept HOWN.out G4 HOP.out)
         have SZ4 := Lib.hid (Nat.le_trans HSZ.out G4.size)
         have HI4 := Lib.hid I4
         have HG4 := Lib.hid G4
         have X4 : w4.cell? ⟨g, k * 5 + 4, none⟩ = some (.slice ak t.kids.length ck) := (World.cell?_of_block (a := ⟨g, k * 5 + 4, none⟩) (HC4.out.trans HCUR.out.symm)).trans f4
         have X5 : ∀ z, (w4.alloc z).cell? ⟨g, k * 5 + 4, none⟩ = some (.slice ak t.kids.length ck) := fun z => cell_past z X4
         clear I4 G4))
    all_goals
      go_wp2
      go_ret
      have hgs : g < (w4.alloc (.cells #[.int .i64 x] 3)).heap.size := by simp; exact Nat.lt_succ_of_lt (lt_of_heap HC4.out)
      have hbl : Below w.heap.size w4 (w6.setCell ⟨g, k * 5 + 4, none⟩ (.slice (some ⟨g2, 0, none⟩) (t.kids.length + 1) c2)) :=
        ((((Below.refl w.heap.size w4).alloc SZ4.out _).grown gr6 (by simp; exact Nat.le_succ_of_le SZ4.out) (fun b hb => (World.ownsRow.lt OWN4.out b hb).1))).setCell (p := ⟨g, k * 5 + 4, none⟩) hSg _
      have hg2 : g2 ≠ g := by
        rcases or6 with e | e
        · intro e2; exact HOG.out (by rw [e, e2])
        · omega
      have own7 := OwnI.kept own6 (grown_one w6 g (k * 5 + 4) (.slice (some ⟨g2, 0, none⟩) (t.kids.length + 1) c2)) (by simp only [Value.ownBlock]; intro e; injection e with e; exact hg2 e)
      refine ⟨(z.map (·.1)).set k { z[k].1 with kids := t.kids ++ [x] }, some ⟨g, 0, none⟩, c, s4, by rw [List.length_set, List.length_map, hzl]; rfl, ?_, by rw [List.length_set, List.length_map, hzl]; exact hcq, by rw [HZ.out]; exact wild_set HSM.out HSH.out _ (by simp; omega) HSK.out, HI4.out.keep hbl hpS, grown_below (grown_trans (grown_drew HG3.out) HG4.out) hbl rfl⟩
      refine bent_lies HPT.out hkz (by simp; exact lt_of_heap HC6) hgp _ (some ⟨g2, 0, none⟩) c2 (fun j v hj hv => ?_) ?_ (OwnI.intsX own7 (by
        simp only [Value.ownBlock]
        intro e
        injection e with e
        rcases or6 with e2 | e2
        · exact HOP.out (by rw [e2, e])
        · have := HI4.out.lt; simp at e2; omega)) (fun i hi hik hne => ?_)
      · rw [World.cell?_setCell_other _ _ _ _ (by intro e; simp only [Addr.mk.injEq] at e; exact hj e.2.1.symm)]
        exact (World.cell?_of_block (a := ⟨g, j, none⟩) (HC6.trans HCUR.out.symm)).trans hv
      · rw [World.cell?_setCell_same _ _ _ Y4, List.length_append]
        rfl
      · have hir : g ≠ r i := fun e => HPT.out.off i hi (by rw [← e]; rfl)
        have hri := HPT.out.lt i hi
        have hrp := (HR.out i hi hne).1
        have h1 : w4.heap[r i]? = w3.heap[r i]? := HG4.out.block (r i) hri (fun e => hrp (by injection e))
        have h0 : r i < w4.heap.size := Nat.lt_of_lt_of_le hri HG4.out.size
        have h2 : w6.heap[r i]? = w3.heap[r i]? := (gr6.block (r i) (by simp; omega) (fun e => by
          rcases HOB.out with e2 | ⟨e2, _⟩
          · rw [e2] at e; cases e
          · rw [e2] at e
            injection e with e
            rcases Nat.lt_or_ge i k with hlt | hge
            · exact HPT.out.asc i k hlt hkz e
            · exact HPT.out.asc k i (by omega) hi e.symm)).trans ((Below.heap_alloc w4 _ _ h0).trans h1)
        exact ⟨((grown_one w6 g (k * 5 + 4) _).block (r i) (by have := gr6.size; simp at this; omega) (fun e => hir (by injection e with e; exact e.symm))).trans h2, hrp⟩
  · by_cases hke : t.kids.length = 0
    · have hkn0 : ¬ (0 : Int) < (t.kids.length : Int) := by omega
      go_wp2
      go_ret
      exact ⟨q, some ⟨g, 0, none⟩, c, s3, by rw [HN.out]; rfl, HLI.out, by rw [HN.out]; exact hcq, wild_of HSM.out HSH.out, HI3.out, HG3.out⟩
    · have hkn0 : (0 : Int) < (t.kids.length : Int) := by omega
      obtain ⟨cap, hak, hib, hrS, _⟩ : ∃ cap, (Value.slice ak t.kids.length ck) = .slice (some ⟨r k, 0, none⟩) t.kids.length cap ∧ IBlk w3 (r k) cap t.kids ∧ w.heap.size ≤ r k ∧ cap ≤ maxLen := by
        rcases HKID.out with ⟨e, _⟩ | h
        · injection e with _ e _; omega
        · exact h
      injection hak with hak _ hck
      subst hak hck
      have hrp : r k ≠ p := by omega
      have hrg : g ≠ r k := fun e => HOFF.out (by rw [← e]; rfl)
      have HBL := Lib.hid (by
        have h := below1 k HI3.out.drew1
        rw [← show IntKind.i64.wrap ((k : Int) + 1) = (k : Int) + 1 by rw [IntKind.wrap_i64]; omega] at h
        exact h)
      have HIB := Lib.hid hib
      have f4d : w3.drew.cell? ⟨g, k * 5 + 4, none⟩ = some (.slice (some ⟨r k, 0, none⟩) t.kids.length ck) := f4
      obtain ⟨y0, hy0⟩ : ∃ y0, w3.cell? ⟨r k, 0, none⟩ = some (.int .i64 y0) := ⟨_, hib.at 0 (by omega)⟩
      have hlt0 := hib.lt
      have HFR := Lib.hid (hib.frozen 0)
      clear hib
      go_wp2
      go_region_law (first
        | (go_simp
           go_at_call 108
           refine HBL.out.mono ?_
           rintro e w4 ⟨x, s4, hx, rfl, I4, G4⟩
           have HB4 := Lib.hid (HIB.out.of_block (G4.block (r k) hlt0 (fun e => hrp (by injection e))))
           have HC4 := Lib.hid ((G4.block g hg3 (fun e => hgp (by injection e))).trans HCUR.out)
           have HI4 := Lib.hid I4
           have HG4 := Lib.hid G4
           have Y0 := HB4.out.at 0 (by omega)
           have Y1 := HB4.out.frozen 0
           have X4 : w4.cell? ⟨g, k * 5 + 4, none⟩ = some (.slice (some ⟨r k, 0, none⟩) t.kids.length ck) := (World.cell?_of_block (a := ⟨g, k * 5 + 4, none⟩) (HC4.out.trans HCUR.out.symm)).trans f4
           clear I4 G4))
      all_goals
        go_wp2
        go_ret
        obtain ⟨y, hy⟩ : ∃ y, y = IntKind.i64.wrap ((x : Int) - 1) := ⟨_, rfl⟩
        rw [← hy]
        have hbl : Below w.heap.size w4 (w4.setCell ⟨r k, 0, none⟩ (.int .i64 y)) := (Below.refl w.heap.size w4).setCell (p := ⟨r k, 0, none⟩) hrS _
        refine ⟨(z.map (·.1)).set k { z[k].1 with kids := t.kids.set 0 y }, some ⟨g, 0, none⟩, c, s4, by rw [List.length_set, List.length_map, hzl]; rfl, ?_, by rw [List.length_set, List.length_map, hzl]; exact hcq, by rw [HZ.out]; exact wild_set HSM.out HSH.out _ (by simp; omega) HSK.out, HI4.out.keep hbl hpS, grown_below (grown_trans (grown_drew HG3.out) HG4.out) hbl rfl⟩
        refine bent_lies HPT.out hkz (by simp; exact lt_of_heap HC4.out) hgp _ (some ⟨r k, 0, none⟩) ck (fun j v hj hv => ?_) ?_ (IBlk.intsX (HB4.out.set 0 y) hrp) (fun i hi hik hne => ?_)
        · rw [World.cell?_setCell_other _ _ _ _ (by intro e; simp only [Addr.mk.injEq] at e; first | exact hrg e.1 | exact hrg e.1.symm)]
          exact (World.cell?_of_block (a := ⟨g, j, none⟩) (HC4.out.trans HCUR.out.symm)).trans hv
        · rw [World.cell?_setCell_other _ _ _ _ (by intro e; simp only [Addr.mk.injEq] at e; first | exact hrg e.1 | exact hrg e.1.symm), X4, List.length_set]
        · have hri := HPT.out.lt i hi
          have hrp' := (HR.out i hi hne).1
          have h1 : w4.heap[r i]? = w3.heap[r i]? := HG4.out.block (r i) hri (fun e => hrp' (by injection e))
          refine ⟨((grown_one w4 (r k) 0 _).block (r i) (Nat.lt_of_lt_of_le hri HG4.out.size) (fun e => ?_)).trans h1, hrp'⟩
          injection e with e
          rcases Nat.lt_or_ge i k with hlt | hge
          · exact HPT.out.asc i k hlt hkz e
          · exact HPT.out.asc k i (by omega) hi e.symm
  · have HOWN := Lib.hid (show w3.ownsRow w.heap.size 60 5 (.slice (some ⟨g, 0, none⟩) n c) n (fl z) by have := HPT.out.own; unfold OwnN at this; rwa [hzl] at this)
    have HIF := Lib.hid (info_parts Tryz.infoNode)
    have HFL := Lib.hid (show (fl z).length = n * 5 by rw [fl_len, hzl])
    have HONE := Lib.hid (fl_one z HPT.out.kid)
    have HNEWS := Lib.hid (show ∀ j u, (fl z)[j]? = some u → w3.cell? ((⟨g, 0, none⟩ : Addr).add j) = some u from HOWN.out.cells rfl)
    go_wp2_with (refine wpList_append_lies _ rfl _ _ 29 rfl w.heap.size 60 HIF.out.choose _ 5 72 Tryz.underlying29 HIF.out.choose_spec.1 HIF.out.choose_spec.2.1 HIF.out.choose_spec.2.2.1 HIF.out.choose_spec.2.2.2 rfl (by decide) (.slice (some ⟨g, 0, none⟩) n c) n (fl z) rfl HOWN.out ⟨g, 0, none⟩ n c (fl z) rfl HFL.out HNEWS.out HONE.out (by omega) (by unfold maxLen; omega) (by omega) HSZ.out _ rfl ?_; intro g2 c2 w6 own6 gr6 or6 lt6)
    go_ret
    have hbl : Below w.heap.size w3 w6 := (Below.refl w.heap.size w3).grown gr6 HSZ.out (fun b hb => by simp only [Value.ownBlock] at hb; injection hb with hb; omega)
    refine ⟨z.map (·.1) ++ z.map (·.1), some ⟨g2, 0, none⟩, c2, s3, by rw [List.length_append, List.length_map, hzl]; rfl, ?_, ?_, ⟨by rw [List.length_append, List.length_map, hzl]; omega, fun t ht => ?_, fun t ht => ?_⟩, HI3.out.keep hbl hpS, grown_below HG3.out hbl rfl⟩
    · refine twice_lies HPT.out (by rw [hzl]; exact own6) ?_ (fun i hi hne => ⟨gr6.block (r i) (HPT.out.lt i hi) (fun e => HPT.out.off i hi e.symm), (HR.out i hi hne).1⟩)
      rcases or6 with e | e
      · simp only [Value.ownBlock] at e; injection e with e; omega
      · have := HI3.out.lt; omega
    · rw [List.length_append, List.length_map, hzl]
      rcases own6.2 with ⟨h, _⟩ | ⟨g', cap', cu', h, _, _, h5, _⟩
      · cases h
      · injection h with _ _ h
        rw [h]; exact h5
    · rw [HZ.out] at ht
      have : t ∈ q := by rcases List.mem_append.1 ht with h | h <;> exact h
      have := HSM.out.2.2 t this
      omega
    · rw [HZ.out] at ht
      exact HSH.out t (by rcases List.mem_append.1 ht with h | h <;> exact h)
  · have d0 := (neF (x := (K : Int)) (c := 0) (by omega)).1
    have d1 := (neF (x := (K : Int)) (c := 1) (by omega)).1
    have d2 := (neF (x := (K : Int)) (c := 2) (by omega)).1
    have d3 := (neF (x := (K : Int)) (c := 3) (by omega)).1
    go_wp2
    go_ret
    exact ⟨q, some ⟨g, 0, none⟩, c, s3, by rw [HN.out]; rfl, HLI.out, by rw [HN.out]; exact hcq, wild_of HSM.out HSH.out, HI3.out, HG3.out⟩
/-- Some nodes and a place in them or one beside them. -/
def WOut (B p : Nat) (a : Option Addr) (len cap : Nat) (zs : List Int) (w : World) (e : Ending) (w' : World) : Prop :=
  ∃ q a2 c2 i s', e = .returned (.tuple #[.slice a2 q.length c2, .int .i64 i]) ∧ -1 ≤ i ∧ i ≤ (q.length : Int) ∧ LiesX p w'.heap.size w' a2 q ∧ q.length ≤ c2 ∧ Wild q ∧ In B w' p a len cap zs s' ∧ w.grownBy w' (some p)
/-- What the law is handed. -/
def POut (w : World) (e : Ending) (w' : World) : Prop :=
  ∃ q a2 c2 i, e = .returned (.tuple #[.slice a2 q.length c2, .int .i64 i]) ∧ -1 ≤ i ∧ i ≤ (q.length : Int) ∧ Lies w'.heap.size w' a2 q ∧ q.length ≤ c2 ∧ Wild q ∧ Below w.heap.size w w'
end
end Go.Proofs.YtiilpnoaocfjgaaGreatDoor.draw

namespace Go.Proofs.YtiilpnoaocfjgaaGreatDoor.draw
open Go.ChangeShapes Go.WideShapes Go.ChangeAt Go.RowKit
open nd lcg
open sz (Sh expr_str stmt_str prog_str)
set_option linter.unusedVariables false
set_option maxRecDepth 20000

def cell4 (t : Nd) : Nat → Value
  | 0 => .int .i64 t.k
  | 1 => .int .i64 t.op
  | 2 => .string t.s
  | _ => .string t.t
/-- One of the first four cells of one node is another now. -/
theorem poke_lies {p S g n c k d : Nat} {z : List (Nd × Value)} {r : Nat → Nat} {w : World} {v : Value} (h : PT S (.slice (some ⟨g, 0, none⟩) n c) z r w) (hk : k < z.length) (hg : g < w.heap.size) (hgp : g ≠ p) (t' : Nd) (hkids : t'.kids = z[k].1.kids) (hd : d < 4)
    (e : ∀ j, j < 4 → cell4 t' j = if j = d then v else cell4 z[k].1 j)
    (hr : ∀ i (hi : i < z.length), z[i].2 ≠ .slice none 0 0 → r i ≠ p) : LiesX p (w.setCell ⟨g, k * 5 + d, none⟩ v).heap.size (w.setCell ⟨g, k * 5 + d, none⟩ v) (some ⟨g, 0, none⟩) ((z.map (·.1)).set k t') := by
  refine .inr ⟨g, 0, rfl, by simp; exact hg, hgp, fun i hi => ?_⟩
  simp only [List.length_set, List.length_map] at hi
  obtain ⟨f0, f1, f2, f3, f4⟩ := pt_five h hi
  rw [Nat.zero_add]
  have hoth : ∀ j u, j ≠ k * 5 + d → w.cell? ⟨g, j, none⟩ = some u → (w.setCell ⟨g, k * 5 + d, none⟩ v).cell? ⟨g, j, none⟩ = some u := fun j u hj hu => by
    rw [World.cell?_setCell_other _ _ _ _ (by intro e; simp only [Addr.mk.injEq] at e; exact hj e.2.1.symm)]
    exact hu
  have hsz : (w.setCell ⟨g, k * 5 + d, none⟩ v).heap.size = w.heap.size := by simp
  have hkid : ∃ ak ck, z[i].2 = .slice ak z[i].1.kids.length ck ∧ IntsX p (w.setCell ⟨g, k * 5 + d, none⟩ v).heap.size (w.setCell ⟨g, k * 5 + d, none⟩ v) ak z[i].1.kids := by
    rcases h.kid i hi with ⟨e1, e2⟩ | ⟨cap, e1, e2, e3⟩
    · exact ⟨none, 0, by rw [e1, e2]; rfl, .inl e2⟩
    · have hir : g ≠ r i := fun e => h.off i hi (by rw [← e]; rfl)
      exact ⟨_, cap, e1, IBlk.intsX (e2.of_block ((grown_one w g (k * 5 + d) v).block (r i) (h.lt i hi) (fun e => hir (by injection e with e; exact e.symm)))) (hr i hi (by rw [e1]; simp))⟩
  obtain ⟨ak, ck, hv, hix⟩ := hkid
  rw [hv] at f4
  by_cases he : k = i
  · subst he
    simp only [List.getElem_set_self]
    have hc : ∀ j, j < 4 → (w.setCell ⟨g, k * 5 + d, none⟩ v).cell? ⟨g, k * 5 + j, none⟩ = some (cell4 t' j) := by
      intro j hj
      have hold : w.cell? ⟨g, k * 5 + j, none⟩ = some (cell4 z[k].1 j) := by
        rcases j with _ | _ | _ | _ | _
        · exact f0
        · exact f1
        · exact f2
        · exact f3
        · omega
      rw [e j hj]
      by_cases hjd : j = d
      · subst hjd
        rw [if_pos rfl, World.cell?_setCell_same _ _ _ hold]
      · rw [if_neg hjd]
        exact hoth _ _ (by omega) hold
    rw [← hkids] at f4 hix
    exact ⟨ak, ck, ⟨hc 0 (by decide), hc 1 (by decide), hc 2 (by decide), hc 3 (by decide), hoth _ _ (by omega) f4⟩, hix⟩
  · simp only [List.getElem_set_ne he, List.getElem_map]
    exact ⟨ak, ck, ⟨hoth _ _ (by omega) f0, hoth _ _ (by omega) f1, hoth _ _ (by omega) f2, hoth _ _ (by omega) f3, hoth _ _ (by omega) f4⟩, hix⟩
theorem getD_sz {L : List ByteArray} (h : L.all (fun x => decide (x.size ≤ 16)) = true) (i : Nat) : (L.getD i ⟨#[]⟩).size ≤ 16 := by
  rw [List.getD_eq_getElem?_getD]
  cases hi : L[i]? with
  | none => exact Nat.zero_le _
  | some x => exact of_decide_eq_true (List.all_eq_true.1 h x (List.mem_of_getElem? hi))
section
variable {B p len cap : Nat} {a : Option Addr} {zs : List Int}
theorem some47 {w : World} {s : St} (H : In B w p a len cap zs s) :
    Calls Tryz.prog 108 #[.pointer (some ⟨p, 0, none⟩), .int .i64 47] w (fun e w' => ∃ x s', e = .returned (.int .i64 x) ∧ In B w' p a len cap zs s' ∧ w.grownBy w' (some p)) := by
  refine (bl_ok 47 (by decide) rfl H).mono ?_
  rintro e w' ⟨rfl, hI, hG⟩
  exact ⟨_, _, rfl, hI, hG⟩
theorem pick7 {w : World} {s : St} (H : In B w p a len cap zs s) :
    Calls Tryz.prog 111 #[.pointer (some ⟨p, 0, none⟩), .slice (some ⟨w.heap.size, 0, none⟩) 7 7] (w.alloc (.cells #[.int .i64 0, .int .i64 1, .int .i64 56, .int .i64 99, .int .i64 54, .int .i64 51, .int .i64 (-1)] 3)) (fun e w' => ∃ x s', e = .returned (.int .i64 x) ∧ In B w' p a len cap zs s' ∧ w.grownBy w' (some p)) := by
  refine (pickInt_lit 7 [0, 1, 56, 99, 54, 51, -1] H rfl (by decide) (by decide)).mono ?_
  rintro e w' ⟨⟨rfl, hI, hG⟩, _⟩
  exact ⟨_, _, rfl, hI, hG⟩
theorem pick6 {w : World} {s : St} (H : In B w p a len cap zs s) :
    Calls Tryz.prog 179 #[.pointer (some ⟨p, 0, none⟩), .slice (some ⟨w.heap.size, 0, none⟩) 6 6] (w.alloc (.cells #[.string ⟨#[]⟩, .string ⟨#[120]⟩, .string ⟨#[105, 102]⟩, .string ⟨#[108, 101, 110, 103, 116, 104]⟩, .string ⟨#[49]⟩, .string ⟨#[47]⟩] 9)) (fun e w' => ∃ (x : ByteArray) (s' : St), x.size ≤ 16 ∧ e = .returned (.string x) ∧ In B w' p a len cap zs s' ∧ w.grownBy w' (some p)) := by
  refine (pick_lit 6 [⟨#[]⟩, ⟨#[120]⟩, ⟨#[105, 102]⟩, ⟨#[108, 101, 110, 103, 116, 104]⟩, ⟨#[49]⟩, ⟨#[47]⟩] H rfl (by decide) (by decide)).mono ?_
  rintro e w' ⟨⟨rfl, hI, hG⟩, _⟩
  exact ⟨_, _, getD_sz (by decide) _, rfl, hI, hG⟩
theorem pick3 {w : World} {s : St} (H : In B w p a len cap zs s) :
    Calls Tryz.prog 179 #[.pointer (some ⟨p, 0, none⟩), .slice (some ⟨w.heap.size, 0, none⟩) 3 3] (w.alloc (.cells #[.string ⟨#[]⟩, .string ⟨#[62]⟩, .string ⟨#[120]⟩] 9)) (fun e w' => ∃ (x : ByteArray) (s' : St), x.size ≤ 16 ∧ e = .returned (.string x) ∧ In B w' p a len cap zs s' ∧ w.grownBy w' (some p)) := by
  refine (pick_lit 3 [⟨#[]⟩, ⟨#[62]⟩, ⟨#[120]⟩] H rfl (by decide) (by decide)).mono ?_
  rintro e w' ⟨⟨rfl, hI, hG⟩, _⟩
  exact ⟨_, _, getD_sz (by decide) _, rfl, hI, hG⟩

set_option maxRecDepth 20000 in
set_option maxHeartbeats 3200000 in
theorem spoilt_ok {w : World} {s : St} (H : In B w p a len cap zs s) :
    Calls Tryz.prog 149 #[.pointer (some ⟨p, 0, none⟩)] w (BOut B p a len cap zs w) := by
  have HI := Lib.hid H
  have HP := H.lt
  clear H
  go_enter Tryz.func149, Tryz.ntmps149
  go_wp2_with fail
  refine (any_ok HI.out).mono ?_
  rintro e w1 ⟨q, s1, ⟨v, rfl, T1, I1, G1⟩, hsm, hsh⟩
  obtain ⟨g, c, z, r, rfl, hcq, hSg, hgw, hpS, hz, hzl, hpt, hr⟩ := T1.row hsm.1
  have hq0 := hsm.1
  have hq1 := hsm.2.1
  have HSM := Lib.hid hsm
  have HSH := Lib.hid hsh
  have HG1 := Lib.hid G1
  have HI1 := Lib.hid I1
  obtain ⟨n, hn⟩ : ∃ n, q.length = n := ⟨_, rfl⟩
  have HZ := Lib.hid hz
  have HN := Lib.hid hn
  have HPT1 := Lib.hid hpt
  have HR := Lib.hid (fun i hi hne => (hr i hi hne).1)
  rw [hn] at hcq hzl HPT1 hq0 hq1 ⊢
  obtain ⟨k, hk⟩ : ∃ k, ((exactG zs).bl n s1).1 = k := ⟨_, rfl⟩
  have hkn := exact_lt zs n s1 (by omega)
  rw [hk] at hkn
  have HK := Lib.hid hk
  clear T1 I1 G1 hsm hsh hz hn hpt hr hk
  go_wp2_with fail
  refine (bl_ok n (by omega) HK.out HI1.out).mono ?_
  rintro e w2 ⟨rfl, I2, G2⟩
  obtain ⟨s2, hs2⟩ : ∃ s2, ((exactG zs).bl n s1).2 = s2 := ⟨_, rfl⟩
  rw [hs2] at I2
  obtain ⟨K, hK⟩ : ∃ K, ((exactG zs).bl 14 s2).1 = K := ⟨_, rfl⟩
  have hK14 := exact_lt zs 14 s2 (by decide)
  rw [hK] at hK14
  have HKK := Lib.hid hK
  have HI2 := Lib.hid I2
  have HG2 := Lib.hid G2
  clear I2 G2 hs2 hK
  go_wp2_with fail
  refine (bl_ok 14 (by decide) HKK.out HI2.out).mono ?_
  rintro e w3 ⟨rfl, I3, G3⟩
  obtain ⟨s3, hs3⟩ : ∃ s3, ((exactG zs).bl 14 s2).2 = s3 := ⟨_, rfl⟩
  rw [hs3] at I3
  have HI3 := Lib.hid I3
  have HG13 := Lib.hid (grown_trans HG2.out G3)
  have HG3 := Lib.hid (grown_trans HG1.out HG13.out)
  have hgp : g ≠ p := by omega
  have HPT := Lib.hid (pt_kept2 HPT1.out HG13.out (by simp only [Value.ownBlock]; intro e; injection e with e; exact hgp e) HR.out)
  have hg3 : g < w3.heap.size := Nat.lt_of_lt_of_le hgw HG13.out.size
  clear I3 G3 hs3
  have HLI := Lib.hid (show LiesX p w3.heap.size w3 (some ⟨g, 0, none⟩) q by rw [← HZ.out]; exact pt_lies HPT.out hg3 hgp HR.out)
  obtain ⟨cur, hcur⟩ : ∃ cur, w3.heap[g]? = some (.cells cur 60 (0, 0)) := by
    rcases HPT.out.own.2 with ⟨h, _⟩ | ⟨g', cap', cur, h, _, hb, _⟩
    · cases h
    · injection h with h _ _
      injection h with h
      injection h with h _ _
      exact ⟨cur, by rw [h]; exact hb⟩
  have HCUR := Lib.hid hcur
  have hkz : k < z.length := by omega
  have hqk : z[k].1 ∈ q := by rw [← HZ.out]; exact List.mem_map.2 ⟨_, List.getElem_mem hkz, rfl⟩
  have HKL := Lib.hid (show z[k].1.kids.length ≤ 1001 by have := HSM.out.2.2 _ hqk; omega)
  have HSK := Lib.hid (HSH.out _ hqk)
  have hk0 : (0 : Int) ≤ (k : Int) := by omega
  have hk1 : (k : Int) < (n : Int) := by omega
  clear hcur hqk
  rcases (show K = 0 ∨ K = 1 ∨ K = 2 ∨ K = 3 ∨ K = 4 ∨ 5 ≤ K by omega) with rfl | rfl | rfl | rfl | rfl | hK5
  · go_wp2_with fail
    refine (some47 HI3.out).mono ?_
    rintro e w4 ⟨x, s4, rfl, I4, G4⟩
    have HI4 := Lib.hid I4
    have HG4 := Lib.hid G4
    have HPT4 := Lib.hid (pt_kept2 HPT.out G4 (by simp only [Value.ownBlock]; intro e; injection e with e; exact hgp e) HR.out)
    have hc4 : w4.heap[g]? = some (.cells cur 60 (0, 0)) := (G4.block g hg3 (fun e => hgp (by injection e))).trans HCUR.out
    have hg4 : g < w4.heap.size := Nat.lt_of_lt_of_le hg3 G4.size
    obtain ⟨f0, f1, f2, f3, f4⟩ := pt_five HPT4.out hkz
    have Y4 : w4.frozen? ⟨g, k * 5, none⟩ = false := frozen_of_row _ _ _ _ _ hc4
    clear I4 G4 hc4
    go_wp2
    go_ret
    have hbl : Below w.heap.size w4 (w4.setCell ⟨g, k * 5, none⟩ (.int .i64 x)) := (Below.refl w.heap.size w4).setCell (p := ⟨g, k * 5, none⟩) hSg _
    refine ⟨(z.map (·.1)).set k { z[k].1 with k := x }, some ⟨g, 0, none⟩, c, s4, by rw [List.length_set, List.length_map, hzl]; rfl, ?_, by rw [List.length_set, List.length_map, hzl]; exact hcq, by rw [HZ.out]; exact wild_set HSM.out HSH.out _ HKL.out HSK.out, HI4.out.keep hbl hpS, grown_below (grown_trans HG3.out HG4.out) hbl rfl⟩
    exact poke_lies (d := 0) HPT4.out hkz hg4 hgp _ rfl (by decide) (by intro j hj; rcases j with _ | _ | _ | _ | _ <;> first | rfl | omega) HR.out
  · go_wp2_with fail
    refine (pick7 HI3.out).mono ?_
    rintro e w4 ⟨x, s4, rfl, I4, G4⟩
    have HI4 := Lib.hid I4
    have HG4 := Lib.hid G4
    have HPT4 := Lib.hid (pt_kept2 HPT.out G4 (by simp only [Value.ownBlock]; intro e; injection e with e; exact hgp e) HR.out)
    have hc4 : w4.heap[g]? = some (.cells cur 60 (0, 0)) := (G4.block g hg3 (fun e => hgp (by injection e))).trans HCUR.out
    have hg4 : g < w4.heap.size := Nat.lt_of_lt_of_le hg3 G4.size
    obtain ⟨f0, f1, f2, f3, f4⟩ := pt_five HPT4.out hkz
    have Y4 : w4.frozen? ⟨g, k * 5 + 1, none⟩ = false := frozen_of_row _ _ _ _ _ hc4
    clear I4 G4 hc4
    go_wp2
    go_ret
    have hbl : Below w.heap.size w4 (w4.setCell ⟨g, k * 5 + 1, none⟩ (.int .i64 x)) := (Below.refl w.heap.size w4).setCell (p := ⟨g, k * 5 + 1, none⟩) hSg _
    refine ⟨(z.map (·.1)).set k { z[k].1 with op := x }, some ⟨g, 0, none⟩, c, s4, by rw [List.length_set, List.length_map, hzl]; rfl, ?_, by rw [List.length_set, List.length_map, hzl]; exact hcq, by rw [HZ.out]; exact wild_set HSM.out HSH.out _ HKL.out HSK.out, HI4.out.keep hbl hpS, grown_below (grown_trans HG3.out HG4.out) hbl rfl⟩
    exact poke_lies (d := 1) HPT4.out hkz hg4 hgp _ rfl (by decide) (by intro j hj; rcases j with _ | _ | _ | _ | _ <;> first | rfl | omega) HR.out
  · go_wp2_with fail
    refine (pick6 HI3.out).mono ?_
    rintro e w4 ⟨x, s4, hx, rfl, I4, G4⟩
    have HI4 := Lib.hid I4
    have HG4 := Lib.hid G4
    have HPT4 := Lib.hid (pt_kept2 HPT.out G4 (by simp only [Value.ownBlock]; intro e; injection e with e; exact hgp e) HR.out)
    have hc4 : w4.heap[g]? = some (.cells cur 60 (0, 0)) := (G4.block g hg3 (fun e => hgp (by injection e))).trans HCUR.out
    have hg4 : g < w4.heap.size := Nat.lt_of_lt_of_le hg3 G4.size
    obtain ⟨f0, f1, f2, f3, f4⟩ := pt_five HPT4.out hkz
    have Y4 : w4.frozen? ⟨g, k * 5 + 2, none⟩ = false := frozen_of_row _ _ _ _ _ hc4
    clear I4 G4 hc4
    go_wp2
    go_ret
    have hbl : Below w.heap.size w4 (w4.setCell ⟨g, k * 5 + 2, none⟩ (.string x)) := (Below.refl w.heap.size w4).setCell (p := ⟨g, k * 5 + 2, none⟩) hSg _
    refine ⟨(z.map (·.1)).set k { z[k].1 with s := x }, some ⟨g, 0, none⟩, c, s4, by rw [List.length_set, List.length_map, hzl]; rfl, ?_, by rw [List.length_set, List.length_map, hzl]; exact hcq, by rw [HZ.out]; exact wild_set HSM.out HSH.out _ HKL.out ⟨hx, HSK.out.2⟩, HI4.out.keep hbl hpS, grown_below (grown_trans HG3.out HG4.out) hbl rfl⟩
    exact poke_lies (d := 2) HPT4.out hkz hg4 hgp _ rfl (by decide) (by intro j hj; rcases j with _ | _ | _ | _ | _ <;> first | rfl | omega) HR.out
  · go_wp2_with fail
    refine (pick3 HI3.out).mono ?_
    rintro e w4 ⟨x, s4, hx, rfl, I4, G4⟩
    have HI4 := Lib.hid I4
    have HG4 := Lib.hid G4
    have HPT4 := Lib.hid (pt_kept2 HPT.out G4 (by simp only [Value.ownBlock]; intro e; injection e with e; exact hgp e) HR.out)
    have hc4 : w4.heap[g]? = some (.cells cur 60 (0, 0)) := (G4.block g hg3 (fun e => hgp (by injection e))).trans HCUR.out
    have hg4 : g < w4.heap.size := Nat.lt_of_lt_of_le hg3 G4.size
    obtain ⟨f0, f1, f2, f3, f4⟩ := pt_five HPT4.out hkz
    have Y4 : w4.frozen? ⟨g, k * 5 + 3, none⟩ = false := frozen_of_row _ _ _ _ _ hc4
    clear I4 G4 hc4
    go_wp2
    go_ret
    have hbl : Below w.heap.size w4 (w4.setCell ⟨g, k * 5 + 3, none⟩ (.string x)) := (Below.refl w.heap.size w4).setCell (p := ⟨g, k * 5 + 3, none⟩) hSg _
    refine ⟨(z.map (·.1)).set k { z[k].1 with t := x }, some ⟨g, 0, none⟩, c, s4, by rw [List.length_set, List.length_map, hzl]; rfl, ?_, by rw [List.length_set, List.length_map, hzl]; exact hcq, by rw [HZ.out]; exact wild_set HSM.out HSH.out _ HKL.out ⟨HSK.out.1, hx⟩, HI4.out.keep hbl hpS, grown_below (grown_trans HG3.out HG4.out) hbl rfl⟩
    exact poke_lies (d := 3) HPT4.out hkz hg4 hgp _ rfl (by decide) (by intro j hj; rcases j with _ | _ | _ | _ | _ <;> first | rfl | omega) HR.out
  · go_wp2_with fail
    refine (bent_ok HI3.out).mono ?_
    rintro e w4 ⟨q4, a4, c4, s4, rfl, h1, h2, h3, h4, h5⟩
    have HF := Lib.hid (And.intro h1 (And.intro h2 (And.intro h3 (And.intro h4 (grown_trans HG3.out h5)))))
    clear h1 h2 h3 h4 h5
    go_wp2
    go_ret
    exact ⟨q4, a4, c4, s4, rfl, HF.out⟩
  · have d0 := (neF (x := (K : Int)) (c := 0) (by omega)).1
    have d1 := (neF (x := (K : Int)) (c := 1) (by omega)).1
    have d2 := (neF (x := (K : Int)) (c := 2) (by omega)).1
    have d3 := (neF (x := (K : Int)) (c := 3) (by omega)).1
    have d4 := (neF (x := (K : Int)) (c := 4) (by omega)).1
    go_wp2
    go_ret
    exact ⟨q, some ⟨g, 0, none⟩, c, s3, by rw [HN.out]; rfl, HLI.out, by rw [HN.out]; exact hcq, wild_of HSM.out HSH.out, HI3.out, HG3.out⟩

def SOut (w : World) (e : Ending) (w' : World) : Prop :=
  ∃ q a2 c2, e = .returned (.slice a2 q.length c2) ∧ Lies w'.heap.size w' a2 q ∧ q.length ≤ c2 ∧ Wild q ∧ Below w.heap.size w w'

end
end Go.Proofs.YtiilpnoaocfjgaaGreatDoor.draw

namespace Go.Proofs.YtiilpnoaocfjgaaGreatDoor.draw
open Go.ChangeShapes Go.WideShapes Go.ChangeAt Go.RowKit
open nd lcg
open ps (B5 set5 below_set5)
open sz (Sh)
set_option linter.unusedVariables false
set_option maxRecDepth 20000

theorem b5_grown {q p : Nat} {L : Int} {d i g s : Bool} {w w' : World} (h : B5 q L d i g s w) (hg : w.grownBy w' (some p)) (hne : q ≠ p) : B5 q L d i g s w' :=
  (hg.block q h.lt (by simpa using hne)).trans h
theorem b5_below {q : Nat} {L : Int} {d i g s : Bool} {w w' : World} (h : B5 q L d i g s w) (hb : Below w.heap.size w w') : B5 q L d i g s w' := h.keep hb h.lt
theorem b5_other {q h : Nat} {L : Int} {d i g s : Bool} {w : World} (H : B5 q L d i g s w) (hne : q ≠ h) (j : Nat) (v : Value) : B5 q L d i g s (w.setCell ⟨h, j, none⟩ v) := (Below.heap_setCell w ⟨h, j, none⟩ v q hne).trans H
section
variable {B p len cap : Nat} {a : Option Addr} {zs : List Int}
theorem In.over1 {w : World} {s : St} (H : In B w p a len cap zs s) (o : Obj) : In B (w.alloc o) p a len cap zs s := H.keep ((Below.refl w.heap.size w).alloc (Nat.le_refl _) _) H.lt
theorem grown_over1 {w w1 : World} (h : w.grownBy w1 (some p)) (o : Obj) : w.grownBy (w1.alloc o) (some p) := grown_trans h (grown_below (grown_refl) ((Below.refl w1.heap.size w1).alloc (Nat.le_refl _) _) rfl)
def BlOut (B p : Nat) (a : Option Addr) (len cap : Nat) (zs : List Int) (n : Nat) (w : World) (e : Ending) (w' : World) : Prop :=
  ∃ (K : Nat) (s' : St), K < n ∧ e = .returned (.int .i64 K) ∧ In B w' p a len cap zs s' ∧ w.grownBy w' (some p)
theorem bl_some {w : World} {s : St} (n : Nat) (hn : 0 < n) (H : In B w p a len cap zs s) :
    Calls Tryz.prog 108 #[.pointer (some ⟨p, 0, none⟩), .int .i64 n] w (BlOut B p a len cap zs n w) := by
  refine (bl_ok n hn rfl H).mono ?_
  rintro e w' ⟨rfl, hI, hG⟩
  exact ⟨_, _, exact_lt zs n s hn, rfl, hI, hG⟩
def OnOut (B p : Nat) (a : Option Addr) (len cap : Nat) (zs : List Int) (w : World) (e : Ending) (w' : World) : Prop :=
  ∃ (b : Bool) (s' : St), e = .returned (.bool b) ∧ In B w' p a len cap zs s' ∧ w.grownBy w' (some p)
theorem once_some {w : World} {s : St} (n : Int) (H : In B w p a len cap zs s) :
    Calls Tryz.prog 56 #[.pointer (some ⟨p, 0, none⟩), .int .i64 n] w (OnOut B p a len cap zs w) := by
  refine (once_any n H).mono ?_
  rintro e w' ⟨rfl, hI, hG⟩
  exact ⟨_, _, rfl, hI, hG⟩
theorem pick3i {w : World} {s : St} (H : In B w p a len cap zs s) :
    Calls Tryz.prog 111 #[.pointer (some ⟨p, 0, none⟩), .slice (some ⟨w.heap.size, 0, none⟩) 3 3] (w.alloc (.cells #[.int .i64 0, .int .i64 16, .int .i64 (-1)] 3)) (fun e w' => ∃ x s', e = .returned (.int .i64 x) ∧ In B w' p a len cap zs s' ∧ w.grownBy w' (some p)) := by
  refine (pickInt_lit 3 [0, 16, -1] H rfl (by decide) (by decide)).mono ?_
  rintro e w' ⟨⟨rfl, hI, hG⟩, _⟩
  exact ⟨_, _, rfl, hI, hG⟩
/-- Some nodes that lie beside the cursor's block. -/
def QOut (B p : Nat) (a : Option Addr) (len cap : Nat) (zs : List Int) (w : World) (e : Ending) (w' : World) : Prop :=
  ∃ q a2 c2 s', e = .returned (.slice a2 q.length c2) ∧ LiesX p w'.heap.size w' a2 q ∧ Small 2300 q ∧ (∀ t ∈ q, Sh t) ∧ (∀ t ∈ q, ar.Ar t) ∧ In B w' p a len cap zs s' ∧ w.grownBy w' (some p)
theorem TAnyX.lies {w w' : World} {e : Ending} (h : TAnyX B p a len cap zs w e w') (hp : p < w.heap.size) : QOut B p a len cap zs w e w' := by
  obtain ⟨q, s1, ⟨v, rfl, T1, I1, G1⟩, hsm, hsh, har⟩ := h
  obtain ⟨g, c, z, r, rfl, hcq, hSg, hgw, hpS, hz, hzl, hpt, hr⟩ := T1.row hsm.1
  refine ⟨q, _, c, s1, rfl, ?_, hsm, hsh, har, I1, G1⟩
  rw [← hz]
  exact pt_lies hpt hgw (by omega) (fun i hi hne => (hr i hi hne).1)

/-- Some position. -/
def PosOut (B p : Nat) (a : Option Addr) (len cap : Nat) (zs : List Int) (w : World) (e : Ending) (w' : World) : Prop :=
  ∃ (L : Int) (d i g s : Bool) (s' : St), e = .returned (.agg #[.int .i64 L, .bool d, .bool i, .bool g, .bool s]) ∧ In B w' p a len cap zs s' ∧ w.grownBy w' (some p)

set_option maxHeartbeats 3200000 in
theorem pos_any {w : World} {s0 : St} (H : In B w p a len cap zs s0) :
    Calls Tryz.prog 59 #[.pointer (some ⟨p, 0, none⟩)] w (PosOut B p a len cap zs w) := by
  have hlt := H.lt
  have I0 := Lib.hid (In.over1 H (.cells #[.int .i64 0, .bool false, .bool false, .bool false, .bool false] 26))
  have G0 := Lib.hid (grown_over1 (p := p) (grown_refl (w := w)) (.cells #[.int .i64 0, .bool false, .bool false, .bool false, .bool false] 26))
  have R0 := Lib.hid (B5.new w 0 false false false false)
  have hrp : w.heap.size ≠ p := by omega
  have HRP := Lib.hid hrp
  have hlt' := Lib.hid hlt
  clear H
  go_enter Tryz.func59, Tryz.ntmps59
  go_wp2_with fail
  refine (bl_some 15 (by decide) I0.out).mono ?_
  rintro e w1 ⟨K, s1, hK, rfl, I1, g1⟩
  have J1 := Lib.hid I1
  have G1 := Lib.hid (grown_trans G0.out g1)
  have R1 := Lib.hid (b5_grown R0.out g1 HRP.out)
  clear I1 g1
  go_wp2_with fail
  refine (once_some 4 J1.out).mono ?_
  rintro e w2 ⟨i, s2, rfl, I2, g2⟩
  have J2 := Lib.hid I2
  have G2 := Lib.hid (grown_trans G1.out g2)
  have R2 := Lib.hid (b5_grown R1.out g2 HRP.out)
  clear I2 g2
  go_wp2_with fail
  refine (once_some 4 J2.out).mono ?_
  rintro e w3 ⟨g, s3, rfl, I3, g3⟩
  have J3 := Lib.hid I3
  have G3 := Lib.hid (grown_trans G2.out g3)
  have R3 := Lib.hid (b5_grown R2.out g3 HRP.out)
  clear I3 g3
  go_wp2_with fail
  refine (once_some 4 J3.out).mono ?_
  rintro e w4 ⟨s, s4, rfl, I4, g4⟩
  have J4 := Lib.hid I4
  have G4 := Lib.hid (grown_trans G3.out g4)
  have R4 := Lib.hid (b5_grown R3.out g4 HRP.out)
  clear I4 g4
  go_wp2_with fail
  obtain ⟨q, hq⟩ : ∃ q, q = w4.heap.size := ⟨_, rfl⟩
  obtain ⟨W, hWe⟩ : ∃ W, W = w4.alloc (.cells #[.int .i64 (1 + (K : Int)), .bool false, .bool i, .bool g, .bool s] 26) := ⟨_, rfl⟩
  have JW := Lib.hid (show In B W p a len cap zs s4 by rw [hWe]; exact In.over1 J4.out _)
  have GW := Lib.hid (show w.grownBy W (some p) by rw [hWe]; exact grown_over1 G4.out _)
  have RW := Lib.hid (show B5 w.heap.size 0 false false false false W by rw [hWe]; exact b5_below R4.out (lv.box_below _ _))
  have OW := Lib.hid (show B5 q (1 + (K : Int)) false i g s W by rw [hWe, hq]; exact B5.new _ _ _ _ _ _)
  have hrq : w.heap.size < q := by rw [hq]; exact R4.out.lt
  have hqp : q ≠ p := by omega
  have HQP := Lib.hid hqp
  have HQR := Lib.hid (Nat.le_of_lt hrq)
  have hne : w.heap.size ≠ q := by omega
  have hne2 : q ≠ w.heap.size := by omega
  rw [← hWe, ← hq]
  clear hWe hq hrq hqp hlt hrp
  refine (bl_some 12 (by decide) JW.out).mono ?_
  rintro e w5 ⟨K2, s5, hK2, rfl, I5, g5⟩
  have J5 := Lib.hid I5
  have G5 := Lib.hid (grown_trans GW.out g5)
  have R5 := Lib.hid (b5_grown RW.out g5 HRP.out)
  have O5 := Lib.hid (b5_grown OW.out g5 HQP.out)
  clear I5 g5
  have HK2 := Lib.hid hK2
  clear hK2 hK
  have hcase : K2 = 0 ∨ K2 = 1 ∨ K2 = 2 ∨ K2 = 3 ∨ K2 = 4 ∨ K2 = 5 ∨ ∃ M, K2 = M + 6 := by
    rcases Nat.lt_or_ge K2 6 with h | h
    · omega
    · exact .inr (.inr (.inr (.inr (.inr (.inr ⟨K2 - 6, by omega⟩)))))
  rcases hcase with rfl | rfl | rfl | rfl | rfl | rfl | ⟨M, rfl⟩
  · obtain ⟨r0, r1, r2, r3, r4⟩ := R5.out.c
    have fr := R5.out.f
    obtain ⟨o0, o1, o2, o3, o4⟩ := O5.out.c
    have fo := O5.out.f
    go_wp2_with fail
    refine (pick3i J5.out).mono ?_
    rintro e w6 ⟨x, s6, rfl, I6, g6⟩
    have J6 := Lib.hid I6
    have G6 := Lib.hid (grown_trans G5.out g6)
    have R6 := Lib.hid (b5_grown R5.out g6 HRP.out)
    have O6 := Lib.hid (b5_grown O5.out g6 HQP.out)
    clear I6 g6 r0 r1 r2 r3 r4 fr o0 o1 o2 o3 o4 fo
    obtain ⟨r0, r1, r2, r3, r4⟩ := R6.out.c
    have fr := R6.out.f
    obtain ⟨o0, o1, o2, o3, o4⟩ := O6.out.c
    have fo := O6.out.f
    go_wp2
    have hqr := HQR.out
    obtain ⟨z0, z1, z2, z3, z4⟩ := (b5_other R6.out hne 0 (.int .i64 (x))).cput (x) (false) (i) (g) (s)
    have hfin := Lib.hid (below_set5 ((Below.refl w.heap.size w6).setCell (p := ⟨q, 0, none⟩) hqr (.int .i64 (x))) (Nat.le_refl _) (x) (false) (i) (g) (s))
    exact bodyPost_ret (v := .agg #[.int .i64 (x), .bool (false), .bool (i), .bool (g), .bool (s)]) (by simp [results, Tryz.results59, go_sem, z0, z1, z2, z3, z4]) rfl ⟨_, _, _, _, _, _, rfl, J6.out.keep hfin.out (by have := hlt'.out; omega), grown_below G6.out hfin.out rfl⟩
  · obtain ⟨r0, r1, r2, r3, r4⟩ := R5.out.c
    have fr := R5.out.f
    obtain ⟨o0, o1, o2, o3, o4⟩ := O5.out.c
    have fo := O5.out.f
    go_wp2
    have hqr := HQR.out
    obtain ⟨z0, z1, z2, z3, z4⟩ := (b5_other R5.out hne 1 (.bool true)).cput (1 + (K : Int)) (true) (i) (g) (s)
    have hfin := Lib.hid (below_set5 ((Below.refl w.heap.size w5).setCell (p := ⟨q, 1, none⟩) hqr (.bool true)) (Nat.le_refl _) (1 + (K : Int)) (true) (i) (g) (s))
    exact bodyPost_ret (v := .agg #[.int .i64 (1 + (K : Int)), .bool (true), .bool (i), .bool (g), .bool (s)]) (by simp [results, Tryz.results59, go_sem, z0, z1, z2, z3, z4]) rfl ⟨_, _, _, _, _, _, rfl, J5.out.keep hfin.out (by have := hlt'.out; omega), grown_below G5.out hfin.out rfl⟩
  · obtain ⟨r0, r1, r2, r3, r4⟩ := R5.out.c
    have fr := R5.out.f
    obtain ⟨o0, o1, o2, o3, o4⟩ := O5.out.c
    have fo := O5.out.f
    go_wp2
    have hqr := HQR.out
    obtain ⟨z0, z1, z2, z3, z4⟩ := (b5_other (b5_other R5.out hne 0 (.int .i64 (14))) hne 1 (.bool true)).cput (14) (true) (i) (g) (s)
    have hfin := Lib.hid (below_set5 (((Below.refl w.heap.size w5).setCell (p := ⟨q, 0, none⟩) hqr (.int .i64 (14))).setCell (p := ⟨q, 1, none⟩) hqr (.bool true)) (Nat.le_refl _) (14) (true) (i) (g) (s))
    exact bodyPost_ret (v := .agg #[.int .i64 (14), .bool (true), .bool (i), .bool (g), .bool (s)]) (by simp [results, Tryz.results59, go_sem, z0, z1, z2, z3, z4]) rfl ⟨_, _, _, _, _, _, rfl, J5.out.keep hfin.out (by have := hlt'.out; omega), grown_below G5.out hfin.out rfl⟩
  · obtain ⟨r0, r1, r2, r3, r4⟩ := R5.out.c
    have fr := R5.out.f
    obtain ⟨o0, o1, o2, o3, o4⟩ := O5.out.c
    have fo := O5.out.f
    go_wp2
    have hqr := HQR.out
    obtain ⟨z0, z1, z2, z3, z4⟩ := (b5_other R5.out hne 0 (.int .i64 (1))).cput (1) (false) (i) (g) (s)
    have hfin := Lib.hid (below_set5 ((Below.refl w.heap.size w5).setCell (p := ⟨q, 0, none⟩) hqr (.int .i64 (1))) (Nat.le_refl _) (1) (false) (i) (g) (s))
    exact bodyPost_ret (v := .agg #[.int .i64 (1), .bool (false), .bool (i), .bool (g), .bool (s)]) (by simp [results, Tryz.results59, go_sem, z0, z1, z2, z3, z4]) rfl ⟨_, _, _, _, _, _, rfl, J5.out.keep hfin.out (by have := hlt'.out; omega), grown_below G5.out hfin.out rfl⟩
  · obtain ⟨r0, r1, r2, r3, r4⟩ := R5.out.c
    have fr := R5.out.f
    obtain ⟨o0, o1, o2, o3, o4⟩ := O5.out.c
    have fo := O5.out.f
    go_wp2
    have hqr := HQR.out
    obtain ⟨z0, z1, z2, z3, z4⟩ := (b5_other R5.out hne 0 (.int .i64 (1))).cput (1) (false) (i) (g) (s)
    have hfin := Lib.hid (below_set5 ((Below.refl w.heap.size w5).setCell (p := ⟨q, 0, none⟩) hqr (.int .i64 (1))) (Nat.le_refl _) (1) (false) (i) (g) (s))
    exact bodyPost_ret (v := .agg #[.int .i64 (1), .bool (false), .bool (i), .bool (g), .bool (s)]) (by simp [results, Tryz.results59, go_sem, z0, z1, z2, z3, z4]) rfl ⟨_, _, _, _, _, _, rfl, J5.out.keep hfin.out (by have := hlt'.out; omega), grown_below G5.out hfin.out rfl⟩
  · obtain ⟨r0, r1, r2, r3, r4⟩ := R5.out.c
    have fr := R5.out.f
    obtain ⟨o0, o1, o2, o3, o4⟩ := O5.out.c
    have fo := O5.out.f
    go_wp2
    have hqr := HQR.out
    obtain ⟨z0, z1, z2, z3, z4⟩ := (b5_other R5.out hne 0 (.int .i64 (1))).cput (1) (false) (i) (g) (s)
    have hfin := Lib.hid (below_set5 ((Below.refl w.heap.size w5).setCell (p := ⟨q, 0, none⟩) hqr (.int .i64 (1))) (Nat.le_refl _) (1) (false) (i) (g) (s))
    exact bodyPost_ret (v := .agg #[.int .i64 (1), .bool (false), .bool (i), .bool (g), .bool (s)]) (by simp [results, Tryz.results59, go_sem, z0, z1, z2, z3, z4]) rfl ⟨_, _, _, _, _, _, rfl, J5.out.keep hfin.out (by have := hlt'.out; omega), grown_below G5.out hfin.out rfl⟩
  · have m0 : ¬ (M : Int) + 6 = 0 := by omega
    have m1 : ¬ (M : Int) + 6 = 1 := by omega
    have m2 : ¬ (M : Int) + 6 = 2 := by omega
    have m3 : ¬ (M : Int) + 6 = 3 := by omega
    have m4 : ¬ (M : Int) + 6 = 4 := by omega
    have m5 : ¬ (M : Int) + 6 = 5 := by omega
    obtain ⟨r0, r1, r2, r3, r4⟩ := R5.out.c
    have fr := R5.out.f
    obtain ⟨o0, o1, o2, o3, o4⟩ := O5.out.c
    have fo := O5.out.f
    go_wp2
    have hqr := HQR.out
    obtain ⟨z0, z1, z2, z3, z4⟩ := R5.out.cput (1 + (K : Int)) (false) (i) (g) (s)
    have hfin := Lib.hid (below_set5 (Below.refl w.heap.size w5) (Nat.le_refl _) (1 + (K : Int)) (false) (i) (g) (s))
    exact bodyPost_ret (v := .agg #[.int .i64 (1 + (K : Int)), .bool (false), .bool (i), .bool (g), .bool (s)]) (by simp [results, Tryz.results59, go_sem, z0, z1, z2, z3, z4]) rfl ⟨_, _, _, _, _, _, rfl, J5.out.keep hfin.out (by have := hlt'.out; omega), grown_below G5.out hfin.out rfl⟩
end
end Go.Proofs.YtiilpnoaocfjgaaGreatDoor.draw
