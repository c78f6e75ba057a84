/-
  spec.l7Expr by the plain drawing functions: one theorem an arm, then the induction over the depth.
-/
import Derived.Test.YtldkhdoboieibaaListC
namespace Go.Proofs.Ytldkhdoboieibaa.draw
open Go.ChangeShapes Go.WideShapes Go.ChangeAt Go.RowKit
open nd
set_option linter.unusedVariables false

theorem grown_refl {w : World} {r : Option Nat} : w.grownBy w r := ⟨rfl, rfl, rfl, Nat.le_refl _, fun _ _ _ => rfl⟩
theorem TOut.back {B p len cap : Nat} {a : Option Addr} {zs : List Int} {q : List Nd} {s' : St} {w w2 w3 : World} {e : Ending} (hG : w.grownBy w2 (some p)) (hp : p < w.heap.size) (h : TOut B p a len cap zs q s' w2 e w3) : TOut B p a len cap zs q s' w e w3 := by
  obtain ⟨v, e, t, i, g⟩ := h
  exact ⟨v, e, t.down hG.size hp, i, grown_trans hG g⟩
theorem word_ok {B p len cap : Nat} {w : World} {a : Option Addr} {zs : List Int} {s : St} (H : In B w p a len cap zs s) :
    Calls Try.prog 54 #[.pointer (some ⟨p, 0, none⟩)] w (fun e w' => Out B p a len cap zs (.string (pkG (exactG zs) l2WordL s).1) (pkG (exactG zs) l2WordL s).2 w e w' ∧ w.heap.size < w'.heap.size) := x_l2Word H
theorem pick_ok {B p len cap : Nat} {w : World} {a : Option Addr} {zs : List Int} {s : St} (n : Nat) (L : List ByteArray) (H : In B w p a len cap zs s) (hL : L.length = n) (hn : 0 < n) (hn2 : n ≤ 1000) :
    Calls Try.prog 56 #[.pointer (some ⟨p, 0, none⟩), .slice (some ⟨w.heap.size, 0, none⟩) n n] (w.alloc (.cells (strCells L) 9)) (fun e w' => Out B p a len cap zs (.string (pkG (exactG zs) L s).1) (pkG (exactG zs) L s).2 w e w' ∧ w.heap.size < w'.heap.size) := by
  have e : pkG (exactG zs) L s = (pickS L zs s, (belowF zs n s).2) := by
    unfold pkG pickS
    rw [hL]
    rfl
  rw [e]
  exact pick_lit n L H hL hn hn2
theorem times_all {σ T : Type} {E : σ → T × σ} {P : T → Prop} (h : ∀ s, P (E s).1) : ∀ n s, ∀ q ∈ (timesG E n s).1, P q := by
  intro n
  induction n with
  | zero => intro s q hq; cases hq
  | succ n ih =>
    intro s q hq
    rcases List.mem_cons.1 hq with e | e
    · rw [e]; exact h s
    · exact ih _ q e
theorem list_len (zs : List Int) (E : St → List Nd × St) (least most : Nat) (hl : least ≤ most) (s : St) : (listG (exactG zs) E least most s).1.length ≤ most := by
  have hb := exact_lt zs (most - least + 1) s (by omega)
  unfold listG
  rw [times_len]
  omega
/-- An arm of the switch. -/
def armG {σ T : Type} (g : Gen σ T) (E1 E2 E3 : σ → T × σ) (i b : Nat) (t : σ) : T × σ :=
  match b with
  | 0 => leafG g t
  | 1 => lvalG g E1 E2 t
  | 2 => (g.nd (nodeO 6 0) [(E1 t).1], (E1 t).2)
  | 3 => let x := pkG g l2WordL t; let l := listG g E1 0 3 x.2; (g.nd (nodeS 7 x.1) l.1, l.2)
  | 4 => let x := pkG g l7FnL t; let l := listG g E2 0 3 x.2; (g.nd (nodeS 8 x.1) l.1, l.2)
  | 5 => let v := lvalG g E2 E3 t; (g.nd (nodeO 9 (51 + (i : Int))) [v.1], v.2)
  | 6 => let v := lvalG g E2 E3 t; (g.nd (nodeO 10 (51 + (i : Int))) [v.1], v.2)
  | 7 => let o := piG g [56, 55, 61] t; let e := E1 o.2; (g.nd (nodeO 11 o.1) [e.1], e.2)
  | 8 => let o := piG g [56, 55, 61] t; let e := E1 o.2; (g.nd (nodeO 11 o.1) [e.1], e.2)
  | 9 => let x := pkG g l2WordL t; let l := listG g E1 1 2 x.2; (g.nd (nodeS 13 x.1) l.1, l.2)
  | 10 => let e := E1 t; let e2 := E1 e.2; let e3 := E1 e2.2; (g.nd (nodeO 14 0) [e.1, e2.1, e3.1], e3.2)
  | 11 => let o := piG g [54, 38, 43] t; let v := lvalG g E2 E3 o.2; let e := E1 v.2; (g.nd (nodeO 15 o.1) [v.1, e.1], e.2)
  | _ => let o := piG g l7BinL t; let e := E1 o.2; let e2 := E1 e.2; (g.nd (nodeO 12 o.1) [e.1, e2.1], e2.2)
theorem step_arm {σ T : Type} (g : Gen σ T) (E1 E2 E3 : σ → T × σ) (s : σ) : stepG g E1 E2 E3 s = armG g E1 E2 E3 (g.bl 2 s).1 (g.bl 16 (g.bl 2 s).2).1 (g.bl 16 (g.bl 2 s).2).2 := rfl
/-- What an arm may use. -/
structure Arm (B p len cap : Nat) (a : Option Addr) (zs : List Int) (D : Int) (E1 E2 E3 : St → List Nd × St) (k : Nat) : Prop where
  d0 : 1 ≤ D
  d1 : D ≤ 100
  h1 : ExprC B p len cap a zs 46 (D - 1) E1
  h2 : ExprC B p len cap a zs 46 (D - 2) E2
  h3 : ExprC B p len cap a zs 46 (D - 3) E3
  s1 : SmE k E1
  s2 : SmE k E2
  s3 : SmE k E3
  hk : k ≤ 5000
section
variable {B p len cap : Nat} {a : Option Addr} {zs : List Int} {D : Int} {E1 E2 E3 : St → List Nd × St} {k : Nat}
theorem Arm.g1 (h : Arm B p len cap a zs D E1 E2 E3 k) (s : St) : Good (E1 s).1 := (h.s1 s).good (by have := h.hk; omega)
theorem Arm.g2 (h : Arm B p len cap a zs D E1 E2 E3 k) (s : St) : Good (E2 s).1 := (h.s2 s).good (by have := h.hk; omega)
theorem Arm.g3 (h : Arm B p len cap a zs D E1 E2 E3 k) (s : St) : Good (E3 s).1 := (h.s3 s).good (by have := h.hk; omega)
theorem Arm.gl (h : Arm B p len cap a zs D E1 E2 E3 k) (s : St) : Good (lvalG (exactG zs) E2 E3 s).1 := (lval_small zs h.s2 h.s3 s).good (by have := h.hk; omega)
theorem Arm.lv (h : Arm B p len cap a zs D E1 E2 E3 k) {w : World} {s : St} (H : In B w p a len cap zs s) : Calls Try.prog 52 #[.pointer (some ⟨p, 0, none⟩), .int .i64 (D - 1)] w (TOut B p a len cap zs (lvalG (exactG zs) E2 E3 s).1 (lvalG (exactG zs) E2 E3 s).2 w) := by
  have d0 := h.d0
  have d1 := h.d1
  exact lval_ok (D - 1) E2 E3 (by omega) (by rw [show D - 1 - 1 = D - 2 by omega]; exact h.h2) (by rw [show D - 1 - 2 = D - 3 by omega]; exact h.h3) h.g2 h.g3 H
theorem Arm.lv0 (h : Arm B p len cap a zs D E1 E2 E3 k) {w : World} {s : St} (H : In B w p a len cap zs s) : Calls Try.prog 52 #[.pointer (some ⟨p, 0, none⟩), .int .i64 D] w (TOut B p a len cap zs (lvalG (exactG zs) E1 E2 s).1 (lvalG (exactG zs) E1 E2 s).2 w) := by
  have d0 := h.d0
  have d1 := h.d1
  exact lval_ok D E1 E2 (by omega) h.h1 h.h2 h.g1 h.g2 H
set_option maxHeartbeats 1600000 in
theorem arm0 {w : World} {s u t : St} {K2 : Nat} (hA : Arm B p len cap a zs D E1 E2 E3 k) (H : In B w p a len cap zs s) (hK2 : (belowF zs 2 s).1 = (K2 : Int)) (hk2 : K2 < 2) (hu : (belowF zs 2 s).2 = u) (hK : (belowF zs 16 u).1 = ((0 : Nat) : Int)) (ht : (belowF zs 16 u).2 = t) :
    Calls Try.prog 46 #[.pointer (some ⟨p, 0, none⟩), .int .i64 D] w (TOut B p a len cap zs (armG (exactG zs) E1 E2 E3 K2 0 t).1 (armG (exactG zs) E1 E2 E3 K2 0 t).2 w) := by
  have HA := Lib.hid hA
  have HI := Lib.hid H
  have HK2 := Lib.hid hK2
  have HU := Lib.hid hu
  have HK := Lib.hid hK
  have HT := Lib.hid ht
  have d0 := hA.d0
  have d1 := hA.d1
  clear hA H hK2 hu hK ht
  go_enter Try.func46, Try.ntmps46
  go_wp2_with fail
  refine (below_any 2 HI.out).mono ?_
  rintro e w1 ⟨he, I1, G1⟩
  rw [HK2.out] at he
  subst he
  rw [HU.out] at I1
  go_wp2_with fail
  refine (below_any 16 I1).mono ?_
  rintro e w2 ⟨he, I2, G2⟩
  rw [HK.out] at he
  subst he
  rw [HT.out] at I2
  have G := Lib.hid (grown_trans G1 G2)
  have hZ := G.out.size
  clear I1 G1 G2
  go_wp2_with fail
  refine (leaf_ok I2).mono ?_
  rintro e w3 ho
  have HM := Lib.hid (TOut.back G.out HI.out.lt ho)
  clear ho
  obtain ⟨vz, rfl, _⟩ := HM.out
  go_wp2
  go_ret
  exact HM.out
set_option maxHeartbeats 1600000 in
theorem arm1 {w : World} {s u t : St} {K2 : Nat} (hA : Arm B p len cap a zs D E1 E2 E3 k) (H : In B w p a len cap zs s) (hK2 : (belowF zs 2 s).1 = (K2 : Int)) (hk2 : K2 < 2) (hu : (belowF zs 2 s).2 = u) (hK : (belowF zs 16 u).1 = ((1 : Nat) : Int)) (ht : (belowF zs 16 u).2 = t) :
    Calls Try.prog 46 #[.pointer (some ⟨p, 0, none⟩), .int .i64 D] w (TOut B p a len cap zs (armG (exactG zs) E1 E2 E3 K2 1 t).1 (armG (exactG zs) E1 E2 E3 K2 1 t).2 w) := by
  have HA := Lib.hid hA
  have HI := Lib.hid H
  have HK2 := Lib.hid hK2
  have HU := Lib.hid hu
  have HK := Lib.hid hK
  have HT := Lib.hid ht
  have d0 := hA.d0
  have d1 := hA.d1
  clear hA H hK2 hu hK ht
  go_enter Try.func46, Try.ntmps46
  go_wp2_with fail
  refine (below_any 2 HI.out).mono ?_
  rintro e w1 ⟨he, I1, G1⟩
  rw [HK2.out] at he
  subst he
  rw [HU.out] at I1
  go_wp2_with fail
  refine (below_any 16 I1).mono ?_
  rintro e w2 ⟨he, I2, G2⟩
  rw [HK.out] at he
  subst he
  rw [HT.out] at I2
  have G := Lib.hid (grown_trans G1 G2)
  have hZ := G.out.size
  clear I1 G1 G2
  go_wp2_with fail
  refine (HA.out.lv0 I2).mono ?_
  rintro e w3 ho
  have HM := Lib.hid (TOut.back G.out HI.out.lt ho)
  clear ho
  obtain ⟨vz, rfl, _⟩ := HM.out
  go_wp2
  go_ret
  exact HM.out
set_option maxHeartbeats 1600000 in
theorem arm2 {w : World} {s u t : St} {K2 : Nat} (hA : Arm B p len cap a zs D E1 E2 E3 k) (H : In B w p a len cap zs s) (hK2 : (belowF zs 2 s).1 = (K2 : Int)) (hk2 : K2 < 2) (hu : (belowF zs 2 s).2 = u) (hK : (belowF zs 16 u).1 = ((2 : Nat) : Int)) (ht : (belowF zs 16 u).2 = t) :
    Calls Try.prog 46 #[.pointer (some ⟨p, 0, none⟩), .int .i64 D] w (TOut B p a len cap zs (armG (exactG zs) E1 E2 E3 K2 2 t).1 (armG (exactG zs) E1 E2 E3 K2 2 t).2 w) := by
  have HA := Lib.hid hA
  have HI := Lib.hid H
  have HK2 := Lib.hid hK2
  have HU := Lib.hid hu
  have HK := Lib.hid hK
  have HT := Lib.hid ht
  have d0 := hA.d0
  have d1 := hA.d1
  clear hA H hK2 hu hK ht
  go_enter Try.func46, Try.ntmps46
  go_wp2_with fail
  refine (below_any 2 HI.out).mono ?_
  rintro e w1 ⟨he, I1, G1⟩
  rw [HK2.out] at he
  subst he
  rw [HU.out] at I1
  go_wp2_with fail
  refine (below_any 16 I1).mono ?_
  rintro e w2 ⟨he, I2, G2⟩
  rw [HK.out] at he
  subst he
  rw [HT.out] at I2
  have G := Lib.hid (grown_trans G1 G2)
  have hZ := G.out.size
  clear I1 G1 G2
  go_wp2_with fail
  refine (HA.out.h1 _ _ I2).mono ?_
  rintro e w3 ⟨v3, rfl, T3, I3, G3⟩
  obtain ⟨a3, c3, rfl⟩ := T3.form
  have GG3 := Lib.hid (grown_trans G.out G3)
  have hZ3 := GG3.out.size
  clear G3
  have X3 := Lib.hid (TR.down T3 (S' := w.heap.size) (by omega) HI.out.lt)
  clear T3
  go_wp2_with fail
  refine (good_parts (n := nodeO 6 0) (parts_of [.slice a3 _ c3] [(E1 t).1] rfl (fun i h _ => by have e0 : i = 0 := (by simpa using h); subst e0; exact X3.out)) (fun q hq => by
      simp only [List.mem_cons, List.not_mem_nil, or_false] at hq
      rcases hq with rfl
      · exact HA.out.g1 _
      ) (by simp)).mono ?_
  rintro e w4 hmk
  have HM := Lib.hid (TOut.make I3 HI.out.lt GG3.out ((Below.refl _ _).alloc (Nat.le_refl _) _) hmk)
  clear hmk
  obtain ⟨vz, rfl, _⟩ := HM.out
  go_wp2
  go_ret
  exact HM.out
set_option maxHeartbeats 1600000 in
theorem arm3 {w : World} {s u t : St} {K2 : Nat} (hA : Arm B p len cap a zs D E1 E2 E3 k) (H : In B w p a len cap zs s) (hK2 : (belowF zs 2 s).1 = (K2 : Int)) (hk2 : K2 < 2) (hu : (belowF zs 2 s).2 = u) (hK : (belowF zs 16 u).1 = ((3 : Nat) : Int)) (ht : (belowF zs 16 u).2 = t) :
    Calls Try.prog 46 #[.pointer (some ⟨p, 0, none⟩), .int .i64 D] w (TOut B p a len cap zs (armG (exactG zs) E1 E2 E3 K2 3 t).1 (armG (exactG zs) E1 E2 E3 K2 3 t).2 w) := by
  have HA := Lib.hid hA
  have HI := Lib.hid H
  have HK2 := Lib.hid hK2
  have HU := Lib.hid hu
  have HK := Lib.hid hK
  have HT := Lib.hid ht
  have d0 := hA.d0
  have d1 := hA.d1
  clear hA H hK2 hu hK ht
  go_enter Try.func46, Try.ntmps46
  go_wp2_with fail
  refine (below_any 2 HI.out).mono ?_
  rintro e w1 ⟨he, I1, G1⟩
  rw [HK2.out] at he
  subst he
  rw [HU.out] at I1
  go_wp2_with fail
  refine (below_any 16 I1).mono ?_
  rintro e w2 ⟨he, I2, G2⟩
  rw [HK.out] at he
  subst he
  rw [HT.out] at I2
  have G := Lib.hid (grown_trans G1 G2)
  have hZ := G.out.size
  clear I1 G1 G2
  go_wp2_with fail
  refine (word_ok I2).mono ?_
  rintro e w3 ⟨⟨rfl, I3, G3⟩, Z3⟩
  have GG3 := Lib.hid (grown_trans G.out G3)
  have hZ3 := GG3.out.size
  clear G3
  go_wp2_with fail
  refine (list_ok 0 3 _ E1 (by decide) (by decide) HA.out.h1 I3).mono ?_
  rintro e w4 ⟨g4, c4, vs4, rfl, L4, GL4⟩
  have HL4 := Lib.hid L4
  have HGL4 := Lib.hid (grown_trans GG3.out GL4)
  have HZ4 := HGL4.out.size
  clear L4 GL4
  go_wp2_with fail
  refine (good_parts (n := nodeS 7 (pkG (exactG zs) l2WordL t).1) HL4.out.parts (times_all HA.out.g1 _ _) (Nat.le_trans (list_len zs _ _ _ (by decide) _) (by decide))).mono ?_
  rintro e w5 hmk
  have HM := Lib.hid (TOut.make HL4.out.cur HI.out.lt HGL4.out (Below.refl _ _) hmk)
  clear hmk
  obtain ⟨vz, rfl, _⟩ := HM.out
  go_wp2
  go_ret
  exact HM.out
set_option maxHeartbeats 1600000 in
theorem arm4 {w : World} {s u t : St} {K2 : Nat} (hA : Arm B p len cap a zs D E1 E2 E3 k) (H : In B w p a len cap zs s) (hK2 : (belowF zs 2 s).1 = (K2 : Int)) (hk2 : K2 < 2) (hu : (belowF zs 2 s).2 = u) (hK : (belowF zs 16 u).1 = ((4 : Nat) : Int)) (ht : (belowF zs 16 u).2 = t) :
    Calls Try.prog 46 #[.pointer (some ⟨p, 0, none⟩), .int .i64 D] w (TOut B p a len cap zs (armG (exactG zs) E1 E2 E3 K2 4 t).1 (armG (exactG zs) E1 E2 E3 K2 4 t).2 w) := by
  have HA := Lib.hid hA
  have HI := Lib.hid H
  have HK2 := Lib.hid hK2
  have HU := Lib.hid hu
  have HK := Lib.hid hK
  have HT := Lib.hid ht
  have d0 := hA.d0
  have d1 := hA.d1
  clear hA H hK2 hu hK ht
  go_enter Try.func46, Try.ntmps46
  go_wp2_with fail
  refine (below_any 2 HI.out).mono ?_
  rintro e w1 ⟨he, I1, G1⟩
  rw [HK2.out] at he
  subst he
  rw [HU.out] at I1
  go_wp2_with fail
  refine (below_any 16 I1).mono ?_
  rintro e w2 ⟨he, I2, G2⟩
  rw [HK.out] at he
  subst he
  rw [HT.out] at I2
  have G := Lib.hid (grown_trans G1 G2)
  have hZ := G.out.size
  clear I1 G1 G2
  go_wp2_with fail
  refine (pick_ok 5 l7FnL I2 rfl (by decide) (by decide)).mono ?_
  rintro e w3 ⟨⟨rfl, I3, G3⟩, Z3⟩
  have GG3 := Lib.hid (grown_trans G.out G3)
  have hZ3 := GG3.out.size
  clear G3
  go_wp2_with fail
  refine (list_ok 0 3 _ E2 (by decide) (by decide) HA.out.h2 I3).mono ?_
  rintro e w4 ⟨g4, c4, vs4, rfl, L4, GL4⟩
  have HL4 := Lib.hid L4
  have HGL4 := Lib.hid (grown_trans GG3.out GL4)
  have HZ4 := HGL4.out.size
  clear L4 GL4
  go_wp2_with fail
  refine (good_parts (n := nodeS 8 (pkG (exactG zs) l7FnL t).1) HL4.out.parts (times_all HA.out.g2 _ _) (Nat.le_trans (list_len zs _ _ _ (by decide) _) (by decide))).mono ?_
  rintro e w5 hmk
  have HM := Lib.hid (TOut.make HL4.out.cur HI.out.lt HGL4.out (Below.refl _ _) hmk)
  clear hmk
  obtain ⟨vz, rfl, _⟩ := HM.out
  go_wp2
  go_ret
  exact HM.out
set_option maxHeartbeats 1600000 in
theorem arm5 {w : World} {s u t : St} {K2 : Nat} (hA : Arm B p len cap a zs D E1 E2 E3 k) (H : In B w p a len cap zs s) (hK2 : (belowF zs 2 s).1 = (K2 : Int)) (hk2 : K2 < 2) (hu : (belowF zs 2 s).2 = u) (hK : (belowF zs 16 u).1 = ((5 : Nat) : Int)) (ht : (belowF zs 16 u).2 = t) :
    Calls Try.prog 46 #[.pointer (some ⟨p, 0, none⟩), .int .i64 D] w (TOut B p a len cap zs (armG (exactG zs) E1 E2 E3 K2 5 t).1 (armG (exactG zs) E1 E2 E3 K2 5 t).2 w) := by
  have HA := Lib.hid hA
  have HI := Lib.hid H
  have HK2 := Lib.hid hK2
  have HU := Lib.hid hu
  have HK := Lib.hid hK
  have HT := Lib.hid ht
  have d0 := hA.d0
  have d1 := hA.d1
  clear hA H hK2 hu hK ht
  go_enter Try.func46, Try.ntmps46
  go_wp2_with fail
  refine (below_any 2 HI.out).mono ?_
  rintro e w1 ⟨he, I1, G1⟩
  rw [HK2.out] at he
  subst he
  rw [HU.out] at I1
  go_wp2_with fail
  refine (below_any 16 I1).mono ?_
  rintro e w2 ⟨he, I2, G2⟩
  rw [HK.out] at he
  subst he
  rw [HT.out] at I2
  have G := Lib.hid (grown_trans G1 G2)
  have hZ := G.out.size
  clear I1 G1 G2
  go_wp2_with fail
  refine (HA.out.lv I2).mono ?_
  rintro e w3 ⟨v3, rfl, T3, I3, G3⟩
  obtain ⟨a3, c3, rfl⟩ := T3.form
  have GG3 := Lib.hid (grown_trans G.out G3)
  have hZ3 := GG3.out.size
  clear G3
  have X3 := Lib.hid (TR.down T3 (S' := w.heap.size) (by omega) HI.out.lt)
  clear T3
  go_wp2_with fail
  refine (good_parts (n := nodeO 9 (51 + (K2 : Int))) (parts_of [.slice a3 _ c3] [(lvalG (exactG zs) E2 E3 t).1] rfl (fun i h _ => by have e0 : i = 0 := (by simpa using h); subst e0; exact X3.out)) (fun q hq => by
      simp only [List.mem_cons, List.not_mem_nil, or_false] at hq
      rcases hq with rfl
      · exact HA.out.gl _
      ) (by simp)).mono ?_
  rintro e w4 hmk
  have HM := Lib.hid (TOut.make I3 HI.out.lt GG3.out ((Below.refl _ _).alloc (Nat.le_refl _) _) hmk)
  clear hmk
  obtain ⟨vz, rfl, _⟩ := HM.out
  go_wp2
  go_ret
  exact HM.out
set_option maxHeartbeats 1600000 in
theorem arm6 {w : World} {s u t : St} {K2 : Nat} (hA : Arm B p len cap a zs D E1 E2 E3 k) (H : In B w p a len cap zs s) (hK2 : (belowF zs 2 s).1 = (K2 : Int)) (hk2 : K2 < 2) (hu : (belowF zs 2 s).2 = u) (hK : (belowF zs 16 u).1 = ((6 : Nat) : Int)) (ht : (belowF zs 16 u).2 = t) :
    Calls Try.prog 46 #[.pointer (some ⟨p, 0, none⟩), .int .i64 D] w (TOut B p a len cap zs (armG (exactG zs) E1 E2 E3 K2 6 t).1 (armG (exactG zs) E1 E2 E3 K2 6 t).2 w) := by
  have HA := Lib.hid hA
  have HI := Lib.hid H
  have HK2 := Lib.hid hK2
  have HU := Lib.hid hu
  have HK := Lib.hid hK
  have HT := Lib.hid ht
  have d0 := hA.d0
  have d1 := hA.d1
  clear hA H hK2 hu hK ht
  go_enter Try.func46, Try.ntmps46
  go_wp2_with fail
  refine (below_any 2 HI.out).mono ?_
  rintro e w1 ⟨he, I1, G1⟩
  rw [HK2.out] at he
  subst he
  rw [HU.out] at I1
  go_wp2_with fail
  refine (below_any 16 I1).mono ?_
  rintro e w2 ⟨he, I2, G2⟩
  rw [HK.out] at he
  subst he
  rw [HT.out] at I2
  have G := Lib.hid (grown_trans G1 G2)
  have hZ := G.out.size
  clear I1 G1 G2
  go_wp2_with fail
  refine (HA.out.lv I2).mono ?_
  rintro e w3 ⟨v3, rfl, T3, I3, G3⟩
  obtain ⟨a3, c3, rfl⟩ := T3.form
  have GG3 := Lib.hid (grown_trans G.out G3)
  have hZ3 := GG3.out.size
  clear G3
  have X3 := Lib.hid (TR.down T3 (S' := w.heap.size) (by omega) HI.out.lt)
  clear T3
  go_wp2_with fail
  refine (good_parts (n := nodeO 10 (51 + (K2 : Int))) (parts_of [.slice a3 _ c3] [(lvalG (exactG zs) E2 E3 t).1] rfl (fun i h _ => by have e0 : i = 0 := (by simpa using h); subst e0; exact X3.out)) (fun q hq => by
      simp only [List.mem_cons, List.not_mem_nil, or_false] at hq
      rcases hq with rfl
      · exact HA.out.gl _
      ) (by simp)).mono ?_
  rintro e w4 hmk
  have HM := Lib.hid (TOut.make I3 HI.out.lt GG3.out ((Below.refl _ _).alloc (Nat.le_refl _) _) hmk)
  clear hmk
  obtain ⟨vz, rfl, _⟩ := HM.out
  go_wp2
  go_ret
  exact HM.out
set_option maxHeartbeats 1600000 in
theorem arm7 {w : World} {s u t : St} {K2 : Nat} (hA : Arm B p len cap a zs D E1 E2 E3 k) (H : In B w p a len cap zs s) (hK2 : (belowF zs 2 s).1 = (K2 : Int)) (hk2 : K2 < 2) (hu : (belowF zs 2 s).2 = u) (hK : (belowF zs 16 u).1 = ((7 : Nat) : Int)) (ht : (belowF zs 16 u).2 = t) :
    Calls Try.prog 46 #[.pointer (some ⟨p, 0, none⟩), .int .i64 D] w (TOut B p a len cap zs (armG (exactG zs) E1 E2 E3 K2 7 t).1 (armG (exactG zs) E1 E2 E3 K2 7 t).2 w) := by
  have HA := Lib.hid hA
  have HI := Lib.hid H
  have HK2 := Lib.hid hK2
  have HU := Lib.hid hu
  have HK := Lib.hid hK
  have HT := Lib.hid ht
  have d0 := hA.d0
  have d1 := hA.d1
  clear hA H hK2 hu hK ht
  go_enter Try.func46, Try.ntmps46
  go_wp2_with fail
  refine (below_any 2 HI.out).mono ?_
  rintro e w1 ⟨he, I1, G1⟩
  rw [HK2.out] at he
  subst he
  rw [HU.out] at I1
  go_wp2_with fail
  refine (below_any 16 I1).mono ?_
  rintro e w2 ⟨he, I2, G2⟩
  rw [HK.out] at he
  subst he
  rw [HT.out] at I2
  have G := Lib.hid (grown_trans G1 G2)
  have hZ := G.out.size
  clear I1 G1 G2
  go_wp2_with fail
  refine (pickInt_lit 3 [56, 55, 61] I2 rfl (by decide) (by decide)).mono ?_
  rintro e w3 ⟨⟨rfl, I3, G3⟩, Z3⟩
  have GG3 := Lib.hid (grown_trans G.out G3)
  have hZ3 := GG3.out.size
  clear G3
  go_wp2_with fail
  refine (HA.out.h1 _ _ I3).mono ?_
  rintro e w4 ⟨v4, rfl, T4, I4, G4⟩
  obtain ⟨a4, c4, rfl⟩ := T4.form
  have GG4 := Lib.hid (grown_trans GG3.out G4)
  have hZ4 := GG4.out.size
  clear G4
  have X4 := Lib.hid (TR.down T4 (S' := w.heap.size) (by omega) HI.out.lt)
  clear T4
  go_wp2_with fail
  refine (good_parts (n := nodeO 11 (piG (exactG zs) [56, 55, 61] t).1) (parts_of [.slice a4 _ c4] [(E1 (piG (exactG zs) [56, 55, 61] t).2).1] rfl (fun i h _ => by have e0 : i = 0 := (by simpa using h); subst e0; exact X4.out)) (fun q hq => by
      simp only [List.mem_cons, List.not_mem_nil, or_false] at hq
      rcases hq with rfl
      · exact HA.out.g1 _
      ) (by simp)).mono ?_
  rintro e w5 hmk
  have HM := Lib.hid (TOut.make I4 HI.out.lt GG4.out ((Below.refl _ _).alloc (Nat.le_refl _) _) hmk)
  clear hmk
  obtain ⟨vz, rfl, _⟩ := HM.out
  go_wp2
  go_ret
  exact HM.out
set_option maxHeartbeats 1600000 in
theorem arm8 {w : World} {s u t : St} {K2 : Nat} (hA : Arm B p len cap a zs D E1 E2 E3 k) (H : In B w p a len cap zs s) (hK2 : (belowF zs 2 s).1 = (K2 : Int)) (hk2 : K2 < 2) (hu : (belowF zs 2 s).2 = u) (hK : (belowF zs 16 u).1 = ((8 : Nat) : Int)) (ht : (belowF zs 16 u).2 = t) :
    Calls Try.prog 46 #[.pointer (some ⟨p, 0, none⟩), .int .i64 D] w (TOut B p a len cap zs (armG (exactG zs) E1 E2 E3 K2 8 t).1 (armG (exactG zs) E1 E2 E3 K2 8 t).2 w) := by
  have HA := Lib.hid hA
  have HI := Lib.hid H
  have HK2 := Lib.hid hK2
  have HU := Lib.hid hu
  have HK := Lib.hid hK
  have HT := Lib.hid ht
  have d0 := hA.d0
  have d1 := hA.d1
  clear hA H hK2 hu hK ht
  go_enter Try.func46, Try.ntmps46
  go_wp2_with fail
  refine (below_any 2 HI.out).mono ?_
  rintro e w1 ⟨he, I1, G1⟩
  rw [HK2.out] at he
  subst he
  rw [HU.out] at I1
  go_wp2_with fail
  refine (below_any 16 I1).mono ?_
  rintro e w2 ⟨he, I2, G2⟩
  rw [HK.out] at he
  subst he
  rw [HT.out] at I2
  have G := Lib.hid (grown_trans G1 G2)
  have hZ := G.out.size
  clear I1 G1 G2
  go_wp2_with fail
  refine (pickInt_lit 3 [56, 55, 61] I2 rfl (by decide) (by decide)).mono ?_
  rintro e w3 ⟨⟨rfl, I3, G3⟩, Z3⟩
  have GG3 := Lib.hid (grown_trans G.out G3)
  have hZ3 := GG3.out.size
  clear G3
  go_wp2_with fail
  refine (HA.out.h1 _ _ I3).mono ?_
  rintro e w4 ⟨v4, rfl, T4, I4, G4⟩
  obtain ⟨a4, c4, rfl⟩ := T4.form
  have GG4 := Lib.hid (grown_trans GG3.out G4)
  have hZ4 := GG4.out.size
  clear G4
  have X4 := Lib.hid (TR.down T4 (S' := w.heap.size) (by omega) HI.out.lt)
  clear T4
  go_wp2_with fail
  refine (good_parts (n := nodeO 11 (piG (exactG zs) [56, 55, 61] t).1) (parts_of [.slice a4 _ c4] [(E1 (piG (exactG zs) [56, 55, 61] t).2).1] rfl (fun i h _ => by have e0 : i = 0 := (by simpa using h); subst e0; exact X4.out)) (fun q hq => by
      simp only [List.mem_cons, List.not_mem_nil, or_false] at hq
      rcases hq with rfl
      · exact HA.out.g1 _
      ) (by simp)).mono ?_
  rintro e w5 hmk
  have HM := Lib.hid (TOut.make I4 HI.out.lt GG4.out ((Below.refl _ _).alloc (Nat.le_refl _) _) hmk)
  clear hmk
  obtain ⟨vz, rfl, _⟩ := HM.out
  go_wp2
  go_ret
  exact HM.out
set_option maxHeartbeats 1600000 in
theorem arm9 {w : World} {s u t : St} {K2 : Nat} (hA : Arm B p len cap a zs D E1 E2 E3 k) (H : In B w p a len cap zs s) (hK2 : (belowF zs 2 s).1 = (K2 : Int)) (hk2 : K2 < 2) (hu : (belowF zs 2 s).2 = u) (hK : (belowF zs 16 u).1 = ((9 : Nat) : Int)) (ht : (belowF zs 16 u).2 = t) :
    Calls Try.prog 46 #[.pointer (some ⟨p, 0, none⟩), .int .i64 D] w (TOut B p a len cap zs (armG (exactG zs) E1 E2 E3 K2 9 t).1 (armG (exactG zs) E1 E2 E3 K2 9 t).2 w) := by
  have HA := Lib.hid hA
  have HI := Lib.hid H
  have HK2 := Lib.hid hK2
  have HU := Lib.hid hu
  have HK := Lib.hid hK
  have HT := Lib.hid ht
  have d0 := hA.d0
  have d1 := hA.d1
  clear hA H hK2 hu hK ht
  go_enter Try.func46, Try.ntmps46
  go_wp2_with fail
  refine (below_any 2 HI.out).mono ?_
  rintro e w1 ⟨he, I1, G1⟩
  rw [HK2.out] at he
  subst he
  rw [HU.out] at I1
  go_wp2_with fail
  refine (below_any 16 I1).mono ?_
  rintro e w2 ⟨he, I2, G2⟩
  rw [HK.out] at he
  subst he
  rw [HT.out] at I2
  have G := Lib.hid (grown_trans G1 G2)
  have hZ := G.out.size
  clear I1 G1 G2
  go_wp2_with fail
  refine (word_ok I2).mono ?_
  rintro e w3 ⟨⟨rfl, I3, G3⟩, Z3⟩
  have GG3 := Lib.hid (grown_trans G.out G3)
  have hZ3 := GG3.out.size
  clear G3
  go_wp2_with fail
  refine (list_ok 1 2 _ E1 (by decide) (by decide) HA.out.h1 I3).mono ?_
  rintro e w4 ⟨g4, c4, vs4, rfl, L4, GL4⟩
  have HL4 := Lib.hid L4
  have HGL4 := Lib.hid (grown_trans GG3.out GL4)
  have HZ4 := HGL4.out.size
  clear L4 GL4
  go_wp2_with fail
  refine (good_parts (n := nodeS 13 (pkG (exactG zs) l2WordL t).1) HL4.out.parts (times_all HA.out.g1 _ _) (Nat.le_trans (list_len zs _ _ _ (by decide) _) (by decide))).mono ?_
  rintro e w5 hmk
  have HM := Lib.hid (TOut.make HL4.out.cur HI.out.lt HGL4.out (Below.refl _ _) hmk)
  clear hmk
  obtain ⟨vz, rfl, _⟩ := HM.out
  go_wp2
  go_ret
  exact HM.out
set_option maxHeartbeats 1600000 in
theorem arm10 {w : World} {s u t : St} {K2 : Nat} (hA : Arm B p len cap a zs D E1 E2 E3 k) (H : In B w p a len cap zs s) (hK2 : (belowF zs 2 s).1 = (K2 : Int)) (hk2 : K2 < 2) (hu : (belowF zs 2 s).2 = u) (hK : (belowF zs 16 u).1 = ((10 : Nat) : Int)) (ht : (belowF zs 16 u).2 = t) :
    Calls Try.prog 46 #[.pointer (some ⟨p, 0, none⟩), .int .i64 D] w (TOut B p a len cap zs (armG (exactG zs) E1 E2 E3 K2 10 t).1 (armG (exactG zs) E1 E2 E3 K2 10 t).2 w) := by
  have HA := Lib.hid hA
  have HI := Lib.hid H
  have HK2 := Lib.hid hK2
  have HU := Lib.hid hu
  have HK := Lib.hid hK
  have HT := Lib.hid ht
  have d0 := hA.d0
  have d1 := hA.d1
  clear hA H hK2 hu hK ht
  go_enter Try.func46, Try.ntmps46
  go_wp2_with fail
  refine (below_any 2 HI.out).mono ?_
  rintro e w1 ⟨he, I1, G1⟩
  rw [HK2.out] at he
  subst he
  rw [HU.out] at I1
  go_wp2_with fail
  refine (below_any 16 I1).mono ?_
  rintro e w2 ⟨he, I2, G2⟩
  rw [HK.out] at he
  subst he
  rw [HT.out] at I2
  have G := Lib.hid (grown_trans G1 G2)
  have hZ := G.out.size
  clear I1 G1 G2
  go_wp2_with fail
  refine (HA.out.h1 _ _ I2).mono ?_
  rintro e w3 ⟨v3, rfl, T3, I3, G3⟩
  obtain ⟨a3, c3, rfl⟩ := T3.form
  have GG3 := Lib.hid (grown_trans G.out G3)
  have hZ3 := GG3.out.size
  clear G3
  have X3 := Lib.hid (TR.down T3 (S' := w.heap.size) (by omega) HI.out.lt)
  clear T3
  go_wp2_with fail
  refine (HA.out.h1 _ _ I3).mono ?_
  rintro e w4 ⟨v4, rfl, T4, I4, G4⟩
  obtain ⟨a4, c4, rfl⟩ := T4.form
  have X3' := Lib.hid (X3.out.grown G4)
  clear X3
  have X3 := X3'
  clear X3'
  have GG4 := Lib.hid (grown_trans GG3.out G4)
  have hZ4 := GG4.out.size
  clear G4
  have X4 := Lib.hid (TR.down T4 (S' := w.heap.size) (by omega) HI.out.lt)
  clear T4
  go_wp2_with fail
  refine (HA.out.h1 _ _ I4).mono ?_
  rintro e w5 ⟨v5, rfl, T5, I5, G5⟩
  obtain ⟨a5, c5, rfl⟩ := T5.form
  have X3' := Lib.hid (X3.out.grown G5)
  clear X3
  have X3 := X3'
  clear X3'
  have X4' := Lib.hid (X4.out.grown G5)
  clear X4
  have X4 := X4'
  clear X4'
  have GG5 := Lib.hid (grown_trans GG4.out G5)
  have hZ5 := GG5.out.size
  clear G5
  have X5 := Lib.hid (TR.down T5 (S' := w.heap.size) (by omega) HI.out.lt)
  clear T5
  go_wp2_with fail
  refine (good_parts (n := nodeO 14 0) (parts_of [.slice a3 _ c3, .slice a4 _ c4, .slice a5 _ c5] [(E1 t).1, (E1 (E1 t).2).1, (E1 (E1 (E1 t).2).2).1] rfl (fun i h _ => by
      have e0 : i = 0 ∨ i = 1 ∨ i = 2 := (by simp at h; omega)
      rcases e0 with rfl | rfl | rfl
      · exact X3.out
      · exact X4.out
      · exact X5.out
      )) (fun q hq => by
      simp only [List.mem_cons, List.not_mem_nil, or_false] at hq
      rcases hq with rfl | rfl | rfl
      · exact HA.out.g1 _
      · exact HA.out.g1 _
      · exact HA.out.g1 _
      ) (by simp)).mono ?_
  rintro e w6 hmk
  have HM := Lib.hid (TOut.make I5 HI.out.lt GG5.out ((Below.refl _ _).alloc (Nat.le_refl _) _) hmk)
  clear hmk
  obtain ⟨vz, rfl, _⟩ := HM.out
  go_wp2
  go_ret
  exact HM.out
set_option maxHeartbeats 1600000 in
theorem arm11 {w : World} {s u t : St} {K2 : Nat} (hA : Arm B p len cap a zs D E1 E2 E3 k) (H : In B w p a len cap zs s) (hK2 : (belowF zs 2 s).1 = (K2 : Int)) (hk2 : K2 < 2) (hu : (belowF zs 2 s).2 = u) (hK : (belowF zs 16 u).1 = ((11 : Nat) : Int)) (ht : (belowF zs 16 u).2 = t) :
    Calls Try.prog 46 #[.pointer (some ⟨p, 0, none⟩), .int .i64 D] w (TOut B p a len cap zs (armG (exactG zs) E1 E2 E3 K2 11 t).1 (armG (exactG zs) E1 E2 E3 K2 11 t).2 w) := by
  have HA := Lib.hid hA
  have HI := Lib.hid H
  have HK2 := Lib.hid hK2
  have HU := Lib.hid hu
  have HK := Lib.hid hK
  have HT := Lib.hid ht
  have d0 := hA.d0
  have d1 := hA.d1
  clear hA H hK2 hu hK ht
  go_enter Try.func46, Try.ntmps46
  go_wp2_with fail
  refine (below_any 2 HI.out).mono ?_
  rintro e w1 ⟨he, I1, G1⟩
  rw [HK2.out] at he
  subst he
  rw [HU.out] at I1
  go_wp2_with fail
  refine (below_any 16 I1).mono ?_
  rintro e w2 ⟨he, I2, G2⟩
  rw [HK.out] at he
  subst he
  rw [HT.out] at I2
  have G := Lib.hid (grown_trans G1 G2)
  have hZ := G.out.size
  clear I1 G1 G2
  go_wp2_with fail
  refine (pickInt_lit 3 [54, 38, 43] I2 rfl (by decide) (by decide)).mono ?_
  rintro e w3 ⟨⟨rfl, I3, G3⟩, Z3⟩
  have GG3 := Lib.hid (grown_trans G.out G3)
  have hZ3 := GG3.out.size
  clear G3
  go_wp2_with fail
  refine (HA.out.lv I3).mono ?_
  rintro e w4 ⟨v4, rfl, T4, I4, G4⟩
  obtain ⟨a4, c4, rfl⟩ := T4.form
  have GG4 := Lib.hid (grown_trans GG3.out G4)
  have hZ4 := GG4.out.size
  clear G4
  have X4 := Lib.hid (TR.down T4 (S' := w.heap.size) (by omega) HI.out.lt)
  clear T4
  go_wp2_with fail
  refine (HA.out.h1 _ _ I4).mono ?_
  rintro e w5 ⟨v5, rfl, T5, I5, G5⟩
  obtain ⟨a5, c5, rfl⟩ := T5.form
  have X4' := Lib.hid (X4.out.grown G5)
  clear X4
  have X4 := X4'
  clear X4'
  have GG5 := Lib.hid (grown_trans GG4.out G5)
  have hZ5 := GG5.out.size
  clear G5
  have X5 := Lib.hid (TR.down T5 (S' := w.heap.size) (by omega) HI.out.lt)
  clear T5
  go_wp2_with fail
  refine (good_parts (n := nodeO 15 (piG (exactG zs) [54, 38, 43] t).1) (parts_of [.slice a4 _ c4, .slice a5 _ c5] [(lvalG (exactG zs) E2 E3 (piG (exactG zs) [54, 38, 43] t).2).1, (E1 (lvalG (exactG zs) E2 E3 (piG (exactG zs) [54, 38, 43] t).2).2).1] rfl (fun i h _ => by
      have e0 : i = 0 ∨ i = 1 := (by simp at h; omega)
      rcases e0 with rfl | rfl
      · exact X4.out
      · exact X5.out
      )) (fun q hq => by
      simp only [List.mem_cons, List.not_mem_nil, or_false] at hq
      rcases hq with rfl | rfl
      · exact HA.out.gl _
      · exact HA.out.g1 _
      ) (by simp)).mono ?_
  rintro e w6 hmk
  have HM := Lib.hid (TOut.make I5 HI.out.lt GG5.out ((Below.refl _ _).alloc (Nat.le_refl _) _) hmk)
  clear hmk
  obtain ⟨vz, rfl, _⟩ := HM.out
  go_wp2
  go_ret
  exact HM.out
set_option maxHeartbeats 1600000 in
theorem arm12 {w : World} {s u t : St} {K2 : Nat} (hA : Arm B p len cap a zs D E1 E2 E3 k) (H : In B w p a len cap zs s) (hK2 : (belowF zs 2 s).1 = (K2 : Int)) (hk2 : K2 < 2) (hu : (belowF zs 2 s).2 = u) (hK : (belowF zs 16 u).1 = ((12 : Nat) : Int)) (ht : (belowF zs 16 u).2 = t) :
    Calls Try.prog 46 #[.pointer (some ⟨p, 0, none⟩), .int .i64 D] w (TOut B p a len cap zs (armG (exactG zs) E1 E2 E3 K2 12 t).1 (armG (exactG zs) E1 E2 E3 K2 12 t).2 w) := by
  have HA := Lib.hid hA
  have HI := Lib.hid H
  have HK2 := Lib.hid hK2
  have HU := Lib.hid hu
  have HK := Lib.hid hK
  have HT := Lib.hid ht
  have d0 := hA.d0
  have d1 := hA.d1
  clear hA H hK2 hu hK ht
  go_enter Try.func46, Try.ntmps46
  go_wp2_with fail
  refine (below_any 2 HI.out).mono ?_
  rintro e w1 ⟨he, I1, G1⟩
  rw [HK2.out] at he
  subst he
  rw [HU.out] at I1
  go_wp2_with fail
  refine (below_any 16 I1).mono ?_
  rintro e w2 ⟨he, I2, G2⟩
  rw [HK.out] at he
  subst he
  rw [HT.out] at I2
  have G := Lib.hid (grown_trans G1 G2)
  have hZ := G.out.size
  clear I1 G1 G2
  go_wp2_with fail
  refine (binop_ok I2).mono ?_
  rintro e w3 ⟨⟨rfl, I3, G3⟩, Z3⟩
  have GG3 := Lib.hid (grown_trans G.out G3)
  have hZ3 := GG3.out.size
  clear G3
  go_wp2_with fail
  refine (HA.out.h1 _ _ I3).mono ?_
  rintro e w4 ⟨v4, rfl, T4, I4, G4⟩
  obtain ⟨a4, c4, rfl⟩ := T4.form
  have GG4 := Lib.hid (grown_trans GG3.out G4)
  have hZ4 := GG4.out.size
  clear G4
  have X4 := Lib.hid (TR.down T4 (S' := w.heap.size) (by omega) HI.out.lt)
  clear T4
  go_wp2_with fail
  refine (HA.out.h1 _ _ I4).mono ?_
  rintro e w5 ⟨v5, rfl, T5, I5, G5⟩
  obtain ⟨a5, c5, rfl⟩ := T5.form
  have X4' := Lib.hid (X4.out.grown G5)
  clear X4
  have X4 := X4'
  clear X4'
  have GG5 := Lib.hid (grown_trans GG4.out G5)
  have hZ5 := GG5.out.size
  clear G5
  have X5 := Lib.hid (TR.down T5 (S' := w.heap.size) (by omega) HI.out.lt)
  clear T5
  go_wp2_with fail
  refine (good_parts (n := nodeO 12 (piG (exactG zs) l7BinL t).1) (parts_of [.slice a4 _ c4, .slice a5 _ c5] [(E1 (piG (exactG zs) l7BinL t).2).1, (E1 (E1 (piG (exactG zs) l7BinL t).2).2).1] rfl (fun i h _ => by
      have e0 : i = 0 ∨ i = 1 := (by simp at h; omega)
      rcases e0 with rfl | rfl
      · exact X4.out
      · exact X5.out
      )) (fun q hq => by
      simp only [List.mem_cons, List.not_mem_nil, or_false] at hq
      rcases hq with rfl | rfl
      · exact HA.out.g1 _
      · exact HA.out.g1 _
      ) (by simp)).mono ?_
  rintro e w6 hmk
  have HM := Lib.hid (TOut.make I5 HI.out.lt GG5.out ((Below.refl _ _).alloc (Nat.le_refl _) _) hmk)
  clear hmk
  obtain ⟨vz, rfl, _⟩ := HM.out
  go_wp2
  go_ret
  exact HM.out
set_option maxHeartbeats 1600000 in
theorem arm13 {w : World} {s u t : St} {K2 : Nat} (hA : Arm B p len cap a zs D E1 E2 E3 k) (H : In B w p a len cap zs s) (hK2 : (belowF zs 2 s).1 = (K2 : Int)) (hk2 : K2 < 2) (hu : (belowF zs 2 s).2 = u) (hK : (belowF zs 16 u).1 = ((13 : Nat) : Int)) (ht : (belowF zs 16 u).2 = t) :
    Calls Try.prog 46 #[.pointer (some ⟨p, 0, none⟩), .int .i64 D] w (TOut B p a len cap zs (armG (exactG zs) E1 E2 E3 K2 13 t).1 (armG (exactG zs) E1 E2 E3 K2 13 t).2 w) := by
  have HA := Lib.hid hA
  have HI := Lib.hid H
  have HK2 := Lib.hid hK2
  have HU := Lib.hid hu
  have HK := Lib.hid hK
  have HT := Lib.hid ht
  have d0 := hA.d0
  have d1 := hA.d1
  clear hA H hK2 hu hK ht
  go_enter Try.func46, Try.ntmps46
  go_wp2_with fail
  refine (below_any 2 HI.out).mono ?_
  rintro e w1 ⟨he, I1, G1⟩
  rw [HK2.out] at he
  subst he
  rw [HU.out] at I1
  go_wp2_with fail
  refine (below_any 16 I1).mono ?_
  rintro e w2 ⟨he, I2, G2⟩
  rw [HK.out] at he
  subst he
  rw [HT.out] at I2
  have G := Lib.hid (grown_trans G1 G2)
  have hZ := G.out.size
  clear I1 G1 G2
  go_wp2_with fail
  refine (binop_ok I2).mono ?_
  rintro e w3 ⟨⟨rfl, I3, G3⟩, Z3⟩
  have GG3 := Lib.hid (grown_trans G.out G3)
  have hZ3 := GG3.out.size
  clear G3
  go_wp2_with fail
  refine (HA.out.h1 _ _ I3).mono ?_
  rintro e w4 ⟨v4, rfl, T4, I4, G4⟩
  obtain ⟨a4, c4, rfl⟩ := T4.form
  have GG4 := Lib.hid (grown_trans GG3.out G4)
  have hZ4 := GG4.out.size
  clear G4
  have X4 := Lib.hid (TR.down T4 (S' := w.heap.size) (by omega) HI.out.lt)
  clear T4
  go_wp2_with fail
  refine (HA.out.h1 _ _ I4).mono ?_
  rintro e w5 ⟨v5, rfl, T5, I5, G5⟩
  obtain ⟨a5, c5, rfl⟩ := T5.form
  have X4' := Lib.hid (X4.out.grown G5)
  clear X4
  have X4 := X4'
  clear X4'
  have GG5 := Lib.hid (grown_trans GG4.out G5)
  have hZ5 := GG5.out.size
  clear G5
  have X5 := Lib.hid (TR.down T5 (S' := w.heap.size) (by omega) HI.out.lt)
  clear T5
  go_wp2_with fail
  refine (good_parts (n := nodeO 12 (piG (exactG zs) l7BinL t).1) (parts_of [.slice a4 _ c4, .slice a5 _ c5] [(E1 (piG (exactG zs) l7BinL t).2).1, (E1 (E1 (piG (exactG zs) l7BinL t).2).2).1] rfl (fun i h _ => by
      have e0 : i = 0 ∨ i = 1 := (by simp at h; omega)
      rcases e0 with rfl | rfl
      · exact X4.out
      · exact X5.out
      )) (fun q hq => by
      simp only [List.mem_cons, List.not_mem_nil, or_false] at hq
      rcases hq with rfl | rfl
      · exact HA.out.g1 _
      · exact HA.out.g1 _
      ) (by simp)).mono ?_
  rintro e w6 hmk
  have HM := Lib.hid (TOut.make I5 HI.out.lt GG5.out ((Below.refl _ _).alloc (Nat.le_refl _) _) hmk)
  clear hmk
  obtain ⟨vz, rfl, _⟩ := HM.out
  go_wp2
  go_ret
  exact HM.out
set_option maxHeartbeats 1600000 in
theorem arm14 {w : World} {s u t : St} {K2 : Nat} (hA : Arm B p len cap a zs D E1 E2 E3 k) (H : In B w p a len cap zs s) (hK2 : (belowF zs 2 s).1 = (K2 : Int)) (hk2 : K2 < 2) (hu : (belowF zs 2 s).2 = u) (hK : (belowF zs 16 u).1 = ((14 : Nat) : Int)) (ht : (belowF zs 16 u).2 = t) :
    Calls Try.prog 46 #[.pointer (some ⟨p, 0, none⟩), .int .i64 D] w (TOut B p a len cap zs (armG (exactG zs) E1 E2 E3 K2 14 t).1 (armG (exactG zs) E1 E2 E3 K2 14 t).2 w) := by
  have HA := Lib.hid hA
  have HI := Lib.hid H
  have HK2 := Lib.hid hK2
  have HU := Lib.hid hu
  have HK := Lib.hid hK
  have HT := Lib.hid ht
  have d0 := hA.d0
  have d1 := hA.d1
  clear hA H hK2 hu hK ht
  go_enter Try.func46, Try.ntmps46
  go_wp2_with fail
  refine (below_any 2 HI.out).mono ?_
  rintro e w1 ⟨he, I1, G1⟩
  rw [HK2.out] at he
  subst he
  rw [HU.out] at I1
  go_wp2_with fail
  refine (below_any 16 I1).mono ?_
  rintro e w2 ⟨he, I2, G2⟩
  rw [HK.out] at he
  subst he
  rw [HT.out] at I2
  have G := Lib.hid (grown_trans G1 G2)
  have hZ := G.out.size
  clear I1 G1 G2
  go_wp2_with fail
  refine (binop_ok I2).mono ?_
  rintro e w3 ⟨⟨rfl, I3, G3⟩, Z3⟩
  have GG3 := Lib.hid (grown_trans G.out G3)
  have hZ3 := GG3.out.size
  clear G3
  go_wp2_with fail
  refine (HA.out.h1 _ _ I3).mono ?_
  rintro e w4 ⟨v4, rfl, T4, I4, G4⟩
  obtain ⟨a4, c4, rfl⟩ := T4.form
  have GG4 := Lib.hid (grown_trans GG3.out G4)
  have hZ4 := GG4.out.size
  clear G4
  have X4 := Lib.hid (TR.down T4 (S' := w.heap.size) (by omega) HI.out.lt)
  clear T4
  go_wp2_with fail
  refine (HA.out.h1 _ _ I4).mono ?_
  rintro e w5 ⟨v5, rfl, T5, I5, G5⟩
  obtain ⟨a5, c5, rfl⟩ := T5.form
  have X4' := Lib.hid (X4.out.grown G5)
  clear X4
  have X4 := X4'
  clear X4'
  have GG5 := Lib.hid (grown_trans GG4.out G5)
  have hZ5 := GG5.out.size
  clear G5
  have X5 := Lib.hid (TR.down T5 (S' := w.heap.size) (by omega) HI.out.lt)
  clear T5
  go_wp2_with fail
  refine (good_parts (n := nodeO 12 (piG (exactG zs) l7BinL t).1) (parts_of [.slice a4 _ c4, .slice a5 _ c5] [(E1 (piG (exactG zs) l7BinL t).2).1, (E1 (E1 (piG (exactG zs) l7BinL t).2).2).1] rfl (fun i h _ => by
      have e0 : i = 0 ∨ i = 1 := (by simp at h; omega)
      rcases e0 with rfl | rfl
      · exact X4.out
      · exact X5.out
      )) (fun q hq => by
      simp only [List.mem_cons, List.not_mem_nil, or_false] at hq
      rcases hq with rfl | rfl
      · exact HA.out.g1 _
      · exact HA.out.g1 _
      ) (by simp)).mono ?_
  rintro e w6 hmk
  have HM := Lib.hid (TOut.make I5 HI.out.lt GG5.out ((Below.refl _ _).alloc (Nat.le_refl _) _) hmk)
  clear hmk
  obtain ⟨vz, rfl, _⟩ := HM.out
  go_wp2
  go_ret
  exact HM.out
set_option maxHeartbeats 1600000 in
theorem arm15 {w : World} {s u t : St} {K2 : Nat} (hA : Arm B p len cap a zs D E1 E2 E3 k) (H : In B w p a len cap zs s) (hK2 : (belowF zs 2 s).1 = (K2 : Int)) (hk2 : K2 < 2) (hu : (belowF zs 2 s).2 = u) (hK : (belowF zs 16 u).1 = ((15 : Nat) : Int)) (ht : (belowF zs 16 u).2 = t) :
    Calls Try.prog 46 #[.pointer (some ⟨p, 0, none⟩), .int .i64 D] w (TOut B p a len cap zs (armG (exactG zs) E1 E2 E3 K2 15 t).1 (armG (exactG zs) E1 E2 E3 K2 15 t).2 w) := by
  have HA := Lib.hid hA
  have HI := Lib.hid H
  have HK2 := Lib.hid hK2
  have HU := Lib.hid hu
  have HK := Lib.hid hK
  have HT := Lib.hid ht
  have d0 := hA.d0
  have d1 := hA.d1
  clear hA H hK2 hu hK ht
  go_enter Try.func46, Try.ntmps46
  go_wp2_with fail
  refine (below_any 2 HI.out).mono ?_
  rintro e w1 ⟨he, I1, G1⟩
  rw [HK2.out] at he
  subst he
  rw [HU.out] at I1
  go_wp2_with fail
  refine (below_any 16 I1).mono ?_
  rintro e w2 ⟨he, I2, G2⟩
  rw [HK.out] at he
  subst he
  rw [HT.out] at I2
  have G := Lib.hid (grown_trans G1 G2)
  have hZ := G.out.size
  clear I1 G1 G2
  go_wp2_with fail
  refine (binop_ok I2).mono ?_
  rintro e w3 ⟨⟨rfl, I3, G3⟩, Z3⟩
  have GG3 := Lib.hid (grown_trans G.out G3)
  have hZ3 := GG3.out.size
  clear G3
  go_wp2_with fail
  refine (HA.out.h1 _ _ I3).mono ?_
  rintro e w4 ⟨v4, rfl, T4, I4, G4⟩
  obtain ⟨a4, c4, rfl⟩ := T4.form
  have GG4 := Lib.hid (grown_trans GG3.out G4)
  have hZ4 := GG4.out.size
  clear G4
  have X4 := Lib.hid (TR.down T4 (S' := w.heap.size) (by omega) HI.out.lt)
  clear T4
  go_wp2_with fail
  refine (HA.out.h1 _ _ I4).mono ?_
  rintro e w5 ⟨v5, rfl, T5, I5, G5⟩
  obtain ⟨a5, c5, rfl⟩ := T5.form
  have X4' := Lib.hid (X4.out.grown G5)
  clear X4
  have X4 := X4'
  clear X4'
  have GG5 := Lib.hid (grown_trans GG4.out G5)
  have hZ5 := GG5.out.size
  clear G5
  have X5 := Lib.hid (TR.down T5 (S' := w.heap.size) (by omega) HI.out.lt)
  clear T5
  go_wp2_with fail
  refine (good_parts (n := nodeO 12 (piG (exactG zs) l7BinL t).1) (parts_of [.slice a4 _ c4, .slice a5 _ c5] [(E1 (piG (exactG zs) l7BinL t).2).1, (E1 (E1 (piG (exactG zs) l7BinL t).2).2).1] rfl (fun i h _ => by
      have e0 : i = 0 ∨ i = 1 := (by simp at h; omega)
      rcases e0 with rfl | rfl
      · exact X4.out
      · exact X5.out
      )) (fun q hq => by
      simp only [List.mem_cons, List.not_mem_nil, or_false] at hq
      rcases hq with rfl | rfl
      · exact HA.out.g1 _
      · exact HA.out.g1 _
      ) (by simp)).mono ?_
  rintro e w6 hmk
  have HM := Lib.hid (TOut.make I5 HI.out.lt GG5.out ((Below.refl _ _).alloc (Nat.le_refl _) _) hmk)
  clear hmk
  obtain ⟨vz, rfl, _⟩ := HM.out
  go_wp2
  go_ret
  exact HM.out
theorem step_ok {w : World} {s : St} (hA : Arm B p len cap a zs D E1 E2 E3 k) (H : In B w p a len cap zs s) :
    Calls Try.prog 46 #[.pointer (some ⟨p, 0, none⟩), .int .i64 D] w (TOut B p a len cap zs (stepG (exactG zs) E1 E2 E3 s).1 (stepG (exactG zs) E1 E2 E3 s).2 w) := by
  have hb2 := belowF_bd zs 2 s (by omega)
  obtain ⟨K2, hK2⟩ : ∃ K : Nat, (belowF zs 2 s).1 = K := ⟨(belowF zs 2 s).1.toNat, by omega⟩
  obtain ⟨u, hu⟩ : ∃ u, (belowF zs 2 s).2 = u := ⟨_, rfl⟩
  have hb := belowF_bd zs 16 u (by omega)
  obtain ⟨K, hK⟩ : ∃ K : Nat, (belowF zs 16 u).1 = K := ⟨(belowF zs 16 u).1.toNat, by omega⟩
  obtain ⟨t, ht⟩ : ∃ t, (belowF zs 16 u).2 = t := ⟨_, rfl⟩
  have e2 : (exactG zs).bl 2 s = (K2, u) := by
    show ((belowF zs 2 s).1.toNat, (belowF zs 2 s).2) = _
    rw [hK2, hu, Int.toNat_natCast]
  have e16 : (exactG zs).bl 16 u = (K, t) := by
    show ((belowF zs 16 u).1.toNat, (belowF zs 16 u).2) = _
    rw [hK, ht, Int.toNat_natCast]
  have hq : stepG (exactG zs) E1 E2 E3 s = armG (exactG zs) E1 E2 E3 K2 K t := by
    rw [step_arm, e2]
    show armG (exactG zs) E1 E2 E3 K2 ((exactG zs).bl 16 u).1 ((exactG zs).bl 16 u).2 = _
    rw [e16]
  rw [hq]
  rw [hK2] at hb2
  have hk2 : K2 < 2 := by omega
  clear hq e2 e16
  rcases (show K = 0 ∨ K = 1 ∨ K = 2 ∨ K = 3 ∨ K = 4 ∨ K = 5 ∨ K = 6 ∨ K = 7 ∨ K = 8 ∨ K = 9 ∨ K = 10 ∨ K = 11 ∨ K = 12 ∨ K = 13 ∨ K = 14 ∨ K = 15 by rw [hK] at hb; omega) with rfl | rfl | rfl | rfl | rfl | rfl | rfl | rfl | rfl | rfl | rfl | rfl | rfl | rfl | rfl | rfl
  · exact arm0 hA H hK2 hk2 hu hK ht
  · exact arm1 hA H hK2 hk2 hu hK ht
  · exact arm2 hA H hK2 hk2 hu hK ht
  · exact arm3 hA H hK2 hk2 hu hK ht
  · exact arm4 hA H hK2 hk2 hu hK ht
  · exact arm5 hA H hK2 hk2 hu hK ht
  · exact arm6 hA H hK2 hk2 hu hK ht
  · exact arm7 hA H hK2 hk2 hu hK ht
  · exact arm8 hA H hK2 hk2 hu hK ht
  · exact arm9 hA H hK2 hk2 hu hK ht
  · exact arm10 hA H hK2 hk2 hu hK ht
  · exact arm11 hA H hK2 hk2 hu hK ht
  · exact arm12 hA H hK2 hk2 hu hK ht
  · exact arm13 hA H hK2 hk2 hu hK ht
  · exact arm14 hA H hK2 hk2 hu hK ht
  · exact arm15 hA H hK2 hk2 hu hK ht
set_option maxHeartbeats 1600000 in
theorem expr_leaf {w : World} {s : St} (D : Int) (hD : -100 ≤ D ∧ D ≤ 0) (H : In B w p a len cap zs s) :
    Calls Try.prog 46 #[.pointer (some ⟨p, 0, none⟩), .int .i64 D] w (TOut B p a len cap zs (leafG (exactG zs) s).1 (leafG (exactG zs) s).2 w) := by
  have HI := Lib.hid H
  clear H
  obtain ⟨d0, d1⟩ := hD
  go_enter Try.func46, Try.ntmps46
  go_wp2_with fail
  refine (leaf_ok HI.out).mono ?_
  rintro e w3 ho
  have HM := Lib.hid ho
  clear ho
  obtain ⟨vz, rfl, _⟩ := HM.out
  go_wp2
  go_ret
  exact HM.out
theorem kZ_le : ∀ d, d ≤ 6 → kZ d ≤ 5000 := by decide
theorem expr_all (B p len cap : Nat) (a : Option Addr) (zs : List Int) : ∀ d : Nat, d ≤ 7 → ExprC B p len cap a zs 46 (d : Int) (exprs (exactG zs) d).1 ∧ ExprC B p len cap a zs 46 ((d : Int) - 1) (exprs (exactG zs) d).2.1 ∧ ExprC B p len cap a zs 46 ((d : Int) - 2) (exprs (exactG zs) d).2.2 := by
  intro d
  induction d with
  | zero => intro _; exact ⟨fun w s H => expr_leaf _ (by decide) H, fun w s H => expr_leaf _ (by decide) H, fun w s H => expr_leaf _ (by decide) H⟩
  | succ d ih =>
    intro hd
    obtain ⟨i1, i2, i3⟩ := ih (by omega)
    obtain ⟨m1, m2, m3⟩ := exprs_small zs d
    refine ⟨fun w s H => ?_, ?_, ?_⟩
    · exact step_ok (k := kZ d) (D := ((d + 1 : Nat) : Int)) ⟨by omega, by omega, by rw [show ((d + 1 : Nat) : Int) - 1 = (d : Int) by omega]; exact i1, by rw [show ((d + 1 : Nat) : Int) - 2 = (d : Int) - 1 by omega]; exact i2, by rw [show ((d + 1 : Nat) : Int) - 3 = (d : Int) - 2 by omega]; exact i3, m1, m2, m3, kZ_le d (by omega)⟩ H
    · rw [show ((d + 1 : Nat) : Int) - 1 = (d : Int) by omega]; exact i1
    · rw [show ((d + 1 : Nat) : Int) - 2 = (d : Int) - 1 by omega]; exact i2
/-- An expression's draw. -/
theorem expr_ok (d : Nat) (hd : d ≤ 7) (B p len cap : Nat) (a : Option Addr) (zs : List Int) : ExprC B p len cap a zs 46 (d : Int) (exprG (exactG zs) d) := (expr_all B p len cap a zs d hd).1
end
end Go.Proofs.Ytldkhdoboieibaa.draw
