/-
  spec.l7Maybe and spec.l7Simple by the plain drawing functions.
-/
import Derived.Test.YtldkhdoboieibaaExprC
namespace Go.Proofs.Ytldkhdoboieibaa.draw
open Go.ChangeShapes Go.WideShapes Go.ChangeAt Go.RowKit
open nd
set_option linter.unusedVariables false

section
variable {B p len cap : Nat} {a : Option Addr} {zs : List Int}
theorem bl_cast (n : Nat) (s : St) (hn : 0 < n) : (((exactG zs).bl n s).1 : Int) = (belowF zs n s).1 := by
  have h := belowF_bd zs n s (by omega)
  show (((belowF zs n s).1.toNat : Nat) : Int) = _
  omega
theorem bl_ok {w : World} {s : St} {K : Nat} (n : Nat) (hn : 0 < n) (hK : ((exactG zs).bl n s).1 = K) (H : In B w p a len cap zs s) :
    Calls Try.prog 26 #[.pointer (some ⟨p, 0, none⟩), .int .i64 n] w (Out B p a len cap zs (.int .i64 K) ((exactG zs).bl n s).2 w) := by
  rw [← hK, bl_cast n s hn]
  exact below_any n H
theorem once_yes {w : World} {s : St} (n : Nat) (hn : 0 < n) (hK : ((exactG zs).bl n s).1 = 0) (H : In B w p a len cap zs s) :
    Calls Try.prog 40 #[.pointer (some ⟨p, 0, none⟩), .int .i64 n] w (Out B p a len cap zs (.bool true) ((exactG zs).bl n s).2 w) := by
  have h := bl_cast (zs := zs) n s hn
  rw [show (true : Bool) = ((belowF zs n s).1 == 0) by rw [← h, hK]; rfl]
  exact once_any n H
theorem once_no {w : World} {s : St} (n : Nat) (hn : 0 < n) (hK : ¬ ((exactG zs).bl n s).1 = 0) (H : In B w p a len cap zs s) :
    Calls Try.prog 40 #[.pointer (some ⟨p, 0, none⟩), .int .i64 n] w (Out B p a len cap zs (.bool false) ((exactG zs).bl n s).2 w) := by
  have h := bl_cast (zs := zs) n s hn
  rw [show (false : Bool) = ((belowF zs n s).1 == 0) by rw [← h]; simp; omega]
  exact once_any n H
theorem maybe_ok {D : Int} {E : St → List Nd × St} (hD : -100 ≤ D ∧ D ≤ 100) (h : ExprC B p len cap a zs 46 D E) : ExprC B p len cap a zs 60 D (maybeG (exactG zs) E) := by
  intro w s H
  have HI := Lib.hid H
  have HE := Lib.hid h
  clear H h
  by_cases hc : ((exactG zs).bl 3 s).1 = 0
  · have HQ := Lib.hid (show maybeG (exactG zs) E s = (leaf 16 ⟨#[]⟩, ((exactG zs).bl 3 s).2) by unfold maybeG; rw [if_pos hc]; rfl)
    go_enter Try.func60, Try.ntmps60
    go_wp2_with fail
    refine (once_yes 3 (by decide) hc HI.out).mono ?_
    rintro e w1 ⟨rfl, I1, G1⟩
    have GG1 := Lib.hid (grown_trans (grown_refl) G1)
    have hZ1 := GG1.out.size
    clear G1
    have HM := Lib.hid (TOut.leaf0 16 ⟨#[]⟩ I1 HI.out.lt (GG1.out))
    go_wp2
    go_ret
    rw [HQ.out]
    exact HM.out
  · have HQ := Lib.hid (show maybeG (exactG zs) E s = E ((exactG zs).bl 3 s).2 by unfold maybeG; rw [if_neg hc])
    go_enter Try.func60, Try.ntmps60
    go_wp2_with fail
    refine (once_no 3 (by decide) hc HI.out).mono ?_
    rintro e w1 ⟨rfl, I1, G1⟩
    have GG1 := Lib.hid (grown_trans (grown_refl) G1)
    have hZ1 := GG1.out.size
    clear G1
    go_wp2_with fail
    refine (HE.out _ _ I1).mono ?_
    rintro e w2 ho
    have HM := Lib.hid (TOut.back (GG1.out) HI.out.lt ho)
    clear ho
    obtain ⟨vz, rfl, _⟩ := HM.out
    go_wp2
    go_ret
    rw [HQ.out]
    exact HM.out

/-- 'print': the arguments, and where to. -/
def printG {σ T : Type} (g : Gen σ T) (E0 E1 : σ → T × σ) (u : σ) : T × σ :=
  if (g.bl 3 (listG g E0 (g.bl 2 u).1 3 (g.bl 2 u).2).2).1 = 0 then
    (g.nd ⟨21, ((g.bl 2 u).1 : Int), ⟨#[]⟩, (pkG g l7OutL (g.bl 3 (listG g E0 (g.bl 2 u).1 3 (g.bl 2 u).2).2).2).1, []⟩ ((listG g E0 (g.bl 2 u).1 3 (g.bl 2 u).2).1 ++ [(E1 (pkG g l7OutL (g.bl 3 (listG g E0 (g.bl 2 u).1 3 (g.bl 2 u).2).2).2).2).1]), (E1 (pkG g l7OutL (g.bl 3 (listG g E0 (g.bl 2 u).1 3 (g.bl 2 u).2).2).2).2).2)
  else (g.nd (nodeO 21 ((g.bl 2 u).1 : Int)) (listG g E0 (g.bl 2 u).1 3 (g.bl 2 u).2).1, (g.bl 3 (listG g E0 (g.bl 2 u).1 3 (g.bl 2 u).2).2).2)
def simpA {σ T : Type} (g : Gen σ T) (E0 E1 : σ → T × σ) (b : Nat) (t : σ) : T × σ :=
  match b with
  | 0 => printG g E0 E1 t
  | 1 => printG g E0 E1 t
  | 2 => (g.nd (nodeO (piG g [22, 25, 26] t).1 0) [], (piG g [22, 25, 26] t).2)
  | 3 => let o := piG g [23, 24] t; let l := listG g E0 0 1 o.2; (g.nd (nodeO o.1 0) l.1, l.2)
  | 4 => let x := pkG g l2WordL t; let l := listG g E1 0 2 x.2; (g.nd (nodeS 27 x.1) l.1, l.2)
  | 5 => if (g.bl 2 t).1 = 0 then (g.nd (nodeS 34 (pkG g l7NoteL (g.bl 2 t).2).1) [], (pkG g l7NoteL (g.bl 2 t).2).2) else (g.nd (nodeO 20 0) [(E0 (g.bl 2 t).2).1], (E0 (g.bl 2 t).2).2)
  | _ => (g.nd (nodeO 20 0) [(E0 t).1], (E0 t).2)
theorem good_partsN {n : Nd} {w2 : World} {a2 : Option Addr} {qs : List (List Nd)} {m cap2 : Nat} (hm : m = qs.length) (hp : Parts w2.heap.size w2 a2 qs) (hg : ∀ q ∈ qs, Good q) (hl : qs.length ≤ 5) :
    Calls Try.prog 53 #[.agg #[.int .i64 n.k, .int .i64 n.op, .string n.s, .string n.t, .slice none 0 0], .slice a2 m cap2] w2 (PgOut (makeT n qs) w2) := by
  subst hm
  exact good_parts hp hg hl
theorem simple_arm {σ T : Type} (g : Gen σ T) (E0 E1 : σ → T × σ) (s : σ) : simpleG g E0 E1 s = simpA g E0 E1 (g.bl 9 s).1 (g.bl 9 s).2 := rfl
structure Sim (B p len cap : Nat) (a : Option Addr) (zs : List Int) (D : Int) (E0 E1 : St → List Nd × St) (k : Nat) : Prop where
  d0 : 0 ≤ D
  d1 : D ≤ 100
  h0 : ExprC B p len cap a zs 46 D E0
  h1 : ExprC B p len cap a zs 46 (D - 1) E1
  s0 : SmE k E0
  s1 : SmE k E1
  hk : k ≤ 5000
variable {D : Int} {E0 E1 : St → List Nd × St} {k : Nat}
theorem Sim.g0 (h : Sim B p len cap a zs D E0 E1 k) (s : St) : Good (E0 s).1 := (h.s0 s).good (by have := h.hk; omega)
theorem Sim.g1 (h : Sim B p len cap a zs D E0 E1 k) (s : St) : Good (E1 s).1 := (h.s1 s).good (by have := h.hk; omega)
set_option maxHeartbeats 1600000 in
theorem simp2 {w : World} {s t : St} (hA : Sim B p len cap a zs D E0 E1 k) (H : In B w p a len cap zs s) (hK : ((exactG zs).bl 9 s).1 = 2) (ht : ((exactG zs).bl 9 s).2 = t) :
    Calls Try.prog 58 #[.pointer (some ⟨p, 0, none⟩), .int .i64 D] w (TOut B p a len cap zs (simpA (exactG zs) E0 E1 2 t).1 (simpA (exactG zs) E0 E1 2 t).2 w) := by
  have HA := Lib.hid hA
  have HI := Lib.hid H
  have HK := Lib.hid hK
  have HT := Lib.hid ht
  have d0 := hA.d0
  have d1 := hA.d1
  clear hA H hK ht
  go_enter Try.func58, Try.ntmps58
  go_wp2_with fail
  refine (bl_ok 9 (by decide) HK.out HI.out).mono ?_
  rintro e w0 ⟨rfl, I0, G0⟩
  rw [HT.out] at I0
  have hZ0 := G0.size
  go_wp2_with fail
  refine (pickInt_lit 3 [22, 25, 26] I0 rfl (by decide) (by decide)).mono ?_
  rintro e w1 ⟨⟨rfl, I1, G1⟩, Z1⟩
  have GG1 := Lib.hid (grown_trans (G0) G1)
  have hZ1 := GG1.out.size
  clear G1
  have HM := Lib.hid (TOut.leaf0 (piG (exactG zs) [22, 25, 26] t).1 ⟨#[]⟩ I1 HI.out.lt (GG1.out))
  go_wp2
  go_ret
  exact HM.out
set_option maxHeartbeats 1600000 in
theorem simp3 {w : World} {s t : St} (hA : Sim B p len cap a zs D E0 E1 k) (H : In B w p a len cap zs s) (hK : ((exactG zs).bl 9 s).1 = 3) (ht : ((exactG zs).bl 9 s).2 = t) :
    Calls Try.prog 58 #[.pointer (some ⟨p, 0, none⟩), .int .i64 D] w (TOut B p a len cap zs (simpA (exactG zs) E0 E1 3 t).1 (simpA (exactG zs) E0 E1 3 t).2 w) := by
  have HA := Lib.hid hA
  have HI := Lib.hid H
  have HK := Lib.hid hK
  have HT := Lib.hid ht
  have d0 := hA.d0
  have d1 := hA.d1
  clear hA H hK ht
  go_enter Try.func58, Try.ntmps58
  go_wp2_with fail
  refine (bl_ok 9 (by decide) HK.out HI.out).mono ?_
  rintro e w0 ⟨rfl, I0, G0⟩
  rw [HT.out] at I0
  have hZ0 := G0.size
  go_wp2_with fail
  refine (pickInt_lit 2 [23, 24] I0 rfl (by decide) (by decide)).mono ?_
  rintro e w1 ⟨⟨rfl, I1, G1⟩, Z1⟩
  have GG1 := Lib.hid (grown_trans (G0) G1)
  have hZ1 := GG1.out.size
  clear G1
  go_wp2_with fail
  refine (list_ok 0 1 _ E0 (by decide) (by decide) HA.out.h0 I1).mono ?_
  rintro e w2 ⟨g2, c2, vs2, rfl, L2, GL2⟩
  have HL2 := Lib.hid L2
  have HGL2 := Lib.hid (grown_trans (GG1.out) GL2)
  have HZ2 := HGL2.out.size
  clear L2 GL2
  go_wp2_with fail
  refine (good_parts (n := nodeO (piG (exactG zs) [23, 24] t).1 0) HL2.out.parts (times_all HA.out.g0 _ _) (Nat.le_trans (list_len zs _ _ _ (by decide) _) (by decide))).mono ?_
  rintro e w3 hmk
  have HM := Lib.hid (TOut.make HL2.out.cur HI.out.lt HGL2.out (Below.refl _ _) hmk)
  clear hmk
  obtain ⟨vz, rfl, _⟩ := HM.out
  go_wp2
  go_ret
  exact HM.out
set_option maxHeartbeats 1600000 in
theorem simp4 {w : World} {s t : St} (hA : Sim B p len cap a zs D E0 E1 k) (H : In B w p a len cap zs s) (hK : ((exactG zs).bl 9 s).1 = 4) (ht : ((exactG zs).bl 9 s).2 = t) :
    Calls Try.prog 58 #[.pointer (some ⟨p, 0, none⟩), .int .i64 D] w (TOut B p a len cap zs (simpA (exactG zs) E0 E1 4 t).1 (simpA (exactG zs) E0 E1 4 t).2 w) := by
  have HA := Lib.hid hA
  have HI := Lib.hid H
  have HK := Lib.hid hK
  have HT := Lib.hid ht
  have d0 := hA.d0
  have d1 := hA.d1
  clear hA H hK ht
  go_enter Try.func58, Try.ntmps58
  go_wp2_with fail
  refine (bl_ok 9 (by decide) HK.out HI.out).mono ?_
  rintro e w0 ⟨rfl, I0, G0⟩
  rw [HT.out] at I0
  have hZ0 := G0.size
  go_wp2_with fail
  refine (word_ok I0).mono ?_
  rintro e w1 ⟨⟨rfl, I1, G1⟩, Z1⟩
  have GG1 := Lib.hid (grown_trans (G0) G1)
  have hZ1 := GG1.out.size
  clear G1
  go_wp2_with fail
  refine (list_ok 0 2 _ E1 (by decide) (by decide) HA.out.h1 I1).mono ?_
  rintro e w2 ⟨g2, c2, vs2, rfl, L2, GL2⟩
  have HL2 := Lib.hid L2
  have HGL2 := Lib.hid (grown_trans (GG1.out) GL2)
  have HZ2 := HGL2.out.size
  clear L2 GL2
  go_wp2_with fail
  refine (good_parts (n := nodeS 27 (pkG (exactG zs) l2WordL t).1) HL2.out.parts (times_all HA.out.g1 _ _) (Nat.le_trans (list_len zs _ _ _ (by decide) _) (by decide))).mono ?_
  rintro e w3 hmk
  have HM := Lib.hid (TOut.make HL2.out.cur HI.out.lt HGL2.out (Below.refl _ _) hmk)
  clear hmk
  obtain ⟨vz, rfl, _⟩ := HM.out
  go_wp2
  go_ret
  exact HM.out
set_option maxHeartbeats 1600000 in
theorem simp5 {w : World} {s t : St} (hA : Sim B p len cap a zs D E0 E1 k) (H : In B w p a len cap zs s) (hK : ((exactG zs).bl 9 s).1 = 5) (ht : ((exactG zs).bl 9 s).2 = t) :
    Calls Try.prog 58 #[.pointer (some ⟨p, 0, none⟩), .int .i64 D] w (TOut B p a len cap zs (simpA (exactG zs) E0 E1 5 t).1 (simpA (exactG zs) E0 E1 5 t).2 w) := by
  have HA := Lib.hid hA
  have HI := Lib.hid H
  have HK := Lib.hid hK
  have HT := Lib.hid ht
  have d0 := hA.d0
  have d1 := hA.d1
  clear hA H hK ht
  by_cases hc : ((exactG zs).bl 2 t).1 = 0
  · have HQ := Lib.hid (show simpA (exactG zs) E0 E1 5 t = (leaf 34 (pkG (exactG zs) l7NoteL ((exactG zs).bl 2 t).2).1, (pkG (exactG zs) l7NoteL ((exactG zs).bl 2 t).2).2) from if_pos hc)
    go_enter Try.func58, Try.ntmps58
    go_wp2_with fail
    refine (bl_ok 9 (by decide) HK.out HI.out).mono ?_
    rintro e w0 ⟨rfl, I0, G0⟩
    rw [HT.out] at I0
    have hZ0 := G0.size
    go_wp2_with fail
    refine (once_yes 2 (by decide) hc I0).mono ?_
    rintro e w1 ⟨rfl, I1, G1⟩
    have GG1 := Lib.hid (grown_trans (G0) G1)
    have hZ1 := GG1.out.size
    clear G1
    go_wp2_with fail
    refine (pick_ok 3 l7NoteL I1 rfl (by decide) (by decide)).mono ?_
    rintro e w2 ⟨⟨rfl, I2, G2⟩, Z2⟩
    have GG2 := Lib.hid (grown_trans (GG1.out) G2)
    have hZ2 := GG2.out.size
    clear G2
    have HM := Lib.hid (TOut.leaf0 34 (pkG (exactG zs) l7NoteL ((exactG zs).bl 2 t).2).1 I2 HI.out.lt (GG2.out))
    go_wp2
    go_ret
    rw [HQ.out]
    exact HM.out
  · have HQ := Lib.hid (show simpA (exactG zs) E0 E1 5 t = (makeT (nodeO 20 0) [(E0 ((exactG zs).bl 2 t).2).1], (E0 ((exactG zs).bl 2 t).2).2) from if_neg hc)
    go_enter Try.func58, Try.ntmps58
    go_wp2_with fail
    refine (bl_ok 9 (by decide) HK.out HI.out).mono ?_
    rintro e w0 ⟨rfl, I0, G0⟩
    rw [HT.out] at I0
    have hZ0 := G0.size
    go_wp2_with fail
    refine (once_no 2 (by decide) hc I0).mono ?_
    rintro e w1 ⟨rfl, I1, G1⟩
    have GG1 := Lib.hid (grown_trans (G0) G1)
    have hZ1 := GG1.out.size
    clear G1
    go_wp2_with fail
    refine (HA.out.h0 _ _ I1).mono ?_
    rintro e w2 ⟨v2, rfl, T2, I2, G2⟩
    obtain ⟨a2, c2, rfl⟩ := T2.form
    have GG2 := Lib.hid (grown_trans (GG1.out) G2)
    have hZ2 := GG2.out.size
    clear G2
    have X2 := Lib.hid (TR.down T2 (S' := w.heap.size) (by omega) HI.out.lt)
    clear T2
    go_wp2_with fail
    refine (good_parts (n := nodeO 20 0) (parts_of [.slice a2 _ c2] [(E0 ((exactG zs).bl 2 t).2).1] rfl (fun i h _ => by have e0 : i = 0 := (by simpa using h); subst e0; exact X2.out)) (fun q hq => by
        simp only [List.mem_cons, List.not_mem_nil, or_false] at hq
        rcases hq with rfl
        · exact HA.out.g0 _
        ) (by simp)).mono ?_
    rintro e w3 hmk
    have HM := Lib.hid (TOut.make I2 HI.out.lt (GG2.out) ((Below.refl _ _).alloc (Nat.le_refl _) _) hmk)
    clear hmk
    obtain ⟨vz, rfl, _⟩ := HM.out
    go_wp2
    go_ret
    rw [HQ.out]
    exact HM.out
set_option maxHeartbeats 1600000 in
theorem simp6 {w : World} {s t : St} (hA : Sim B p len cap a zs D E0 E1 k) (H : In B w p a len cap zs s) (hK : ((exactG zs).bl 9 s).1 = 6) (ht : ((exactG zs).bl 9 s).2 = t) :
    Calls Try.prog 58 #[.pointer (some ⟨p, 0, none⟩), .int .i64 D] w (TOut B p a len cap zs (simpA (exactG zs) E0 E1 6 t).1 (simpA (exactG zs) E0 E1 6 t).2 w) := by
  have HA := Lib.hid hA
  have HI := Lib.hid H
  have HK := Lib.hid hK
  have HT := Lib.hid ht
  have d0 := hA.d0
  have d1 := hA.d1
  clear hA H hK ht
  go_enter Try.func58, Try.ntmps58
  go_wp2_with fail
  refine (bl_ok 9 (by decide) HK.out HI.out).mono ?_
  rintro e w0 ⟨rfl, I0, G0⟩
  rw [HT.out] at I0
  have hZ0 := G0.size
  go_wp2_with fail
  refine (HA.out.h0 _ _ I0).mono ?_
  rintro e w1 ⟨v1, rfl, T1, I1, G1⟩
  obtain ⟨a1, c1, rfl⟩ := T1.form
  have GG1 := Lib.hid (grown_trans (G0) G1)
  have hZ1 := GG1.out.size
  clear G1
  have X1 := Lib.hid (TR.down T1 (S' := w.heap.size) (by omega) HI.out.lt)
  clear T1
  go_wp2_with fail
  refine (good_parts (n := nodeO 20 0) (parts_of [.slice a1 _ c1] [(E0 t).1] rfl (fun i h _ => by have e0 : i = 0 := (by simpa using h); subst e0; exact X1.out)) (fun q hq => by
      simp only [List.mem_cons, List.not_mem_nil, or_false] at hq
      rcases hq with rfl
      · exact HA.out.g0 _
      ) (by simp)).mono ?_
  rintro e w2 hmk
  have HM := Lib.hid (TOut.make I1 HI.out.lt (GG1.out) ((Below.refl _ _).alloc (Nat.le_refl _) _) hmk)
  clear hmk
  obtain ⟨vz, rfl, _⟩ := HM.out
  go_wp2
  go_ret
  exact HM.out
set_option maxHeartbeats 1600000 in
theorem simp7 {w : World} {s t : St} (hA : Sim B p len cap a zs D E0 E1 k) (H : In B w p a len cap zs s) (hK : ((exactG zs).bl 9 s).1 = 7) (ht : ((exactG zs).bl 9 s).2 = t) :
    Calls Try.prog 58 #[.pointer (some ⟨p, 0, none⟩), .int .i64 D] w (TOut B p a len cap zs (simpA (exactG zs) E0 E1 7 t).1 (simpA (exactG zs) E0 E1 7 t).2 w) := by
  have HA := Lib.hid hA
  have HI := Lib.hid H
  have HK := Lib.hid hK
  have HT := Lib.hid ht
  have d0 := hA.d0
  have d1 := hA.d1
  clear hA H hK ht
  go_enter Try.func58, Try.ntmps58
  go_wp2_with fail
  refine (bl_ok 9 (by decide) HK.out HI.out).mono ?_
  rintro e w0 ⟨rfl, I0, G0⟩
  rw [HT.out] at I0
  have hZ0 := G0.size
  go_wp2_with fail
  refine (HA.out.h0 _ _ I0).mono ?_
  rintro e w1 ⟨v1, rfl, T1, I1, G1⟩
  obtain ⟨a1, c1, rfl⟩ := T1.form
  have GG1 := Lib.hid (grown_trans (G0) G1)
  have hZ1 := GG1.out.size
  clear G1
  have X1 := Lib.hid (TR.down T1 (S' := w.heap.size) (by omega) HI.out.lt)
  clear T1
  go_wp2_with fail
  refine (good_parts (n := nodeO 20 0) (parts_of [.slice a1 _ c1] [(E0 t).1] rfl (fun i h _ => by have e0 : i = 0 := (by simpa using h); subst e0; exact X1.out)) (fun q hq => by
      simp only [List.mem_cons, List.not_mem_nil, or_false] at hq
      rcases hq with rfl
      · exact HA.out.g0 _
      ) (by simp)).mono ?_
  rintro e w2 hmk
  have HM := Lib.hid (TOut.make I1 HI.out.lt (GG1.out) ((Below.refl _ _).alloc (Nat.le_refl _) _) hmk)
  clear hmk
  obtain ⟨vz, rfl, _⟩ := HM.out
  go_wp2
  go_ret
  exact HM.out
set_option maxHeartbeats 1600000 in
theorem simp8 {w : World} {s t : St} (hA : Sim B p len cap a zs D E0 E1 k) (H : In B w p a len cap zs s) (hK : ((exactG zs).bl 9 s).1 = 8) (ht : ((exactG zs).bl 9 s).2 = t) :
    Calls Try.prog 58 #[.pointer (some ⟨p, 0, none⟩), .int .i64 D] w (TOut B p a len cap zs (simpA (exactG zs) E0 E1 8 t).1 (simpA (exactG zs) E0 E1 8 t).2 w) := by
  have HA := Lib.hid hA
  have HI := Lib.hid H
  have HK := Lib.hid hK
  have HT := Lib.hid ht
  have d0 := hA.d0
  have d1 := hA.d1
  clear hA H hK ht
  go_enter Try.func58, Try.ntmps58
  go_wp2_with fail
  refine (bl_ok 9 (by decide) HK.out HI.out).mono ?_
  rintro e w0 ⟨rfl, I0, G0⟩
  rw [HT.out] at I0
  have hZ0 := G0.size
  go_wp2_with fail
  refine (HA.out.h0 _ _ I0).mono ?_
  rintro e w1 ⟨v1, rfl, T1, I1, G1⟩
  obtain ⟨a1, c1, rfl⟩ := T1.form
  have GG1 := Lib.hid (grown_trans (G0) G1)
  have hZ1 := GG1.out.size
  clear G1
  have X1 := Lib.hid (TR.down T1 (S' := w.heap.size) (by omega) HI.out.lt)
  clear T1
  go_wp2_with fail
  refine (good_parts (n := nodeO 20 0) (parts_of [.slice a1 _ c1] [(E0 t).1] rfl (fun i h _ => by have e0 : i = 0 := (by simpa using h); subst e0; exact X1.out)) (fun q hq => by
      simp only [List.mem_cons, List.not_mem_nil, or_false] at hq
      rcases hq with rfl
      · exact HA.out.g0 _
      ) (by simp)).mono ?_
  rintro e w2 hmk
  have HM := Lib.hid (TOut.make I1 HI.out.lt (GG1.out) ((Below.refl _ _).alloc (Nat.le_refl _) _) hmk)
  clear hmk
  obtain ⟨vz, rfl, _⟩ := HM.out
  go_wp2
  go_ret
  exact HM.out
set_option maxRecDepth 20000 in
set_option maxHeartbeats 1600000 in
theorem simp0 {w : World} {s t : St} (hA : Sim B p len cap a zs D E0 E1 k) (H : In B w p a len cap zs s) (hK : ((exactG zs).bl 9 s).1 = 0) (ht : ((exactG zs).bl 9 s).2 = t) :
    Calls Try.prog 58 #[.pointer (some ⟨p, 0, none⟩), .int .i64 D] w (TOut B p a len cap zs (simpA (exactG zs) E0 E1 0 t).1 (simpA (exactG zs) E0 E1 0 t).2 w) := by
  have HA := Lib.hid hA
  have HI := Lib.hid H
  have HK := Lib.hid hK
  have HT := Lib.hid ht
  have d0 := hA.d0
  have d1 := hA.d1
  clear hA H hK ht
  obtain ⟨K2, hK2⟩ : ∃ K2, ((exactG zs).bl 2 t).1 = K2 := ⟨_, rfl⟩
  obtain ⟨u, hu⟩ : ∃ u, ((exactG zs).bl 2 t).2 = u := ⟨_, rfl⟩
  have hk2 := exact_lt zs 2 t (by decide)
  rw [hK2] at hk2
  obtain ⟨ql, hql⟩ : ∃ ql, (listG (exactG zs) E0 K2 3 u).1 = ql := ⟨_, rfl⟩
  obtain ⟨x, hx⟩ : ∃ x, (listG (exactG zs) E0 K2 3 u).2 = x := ⟨_, rfl⟩
  have hqn : ql.length ≤ 3 := by rw [← hql]; exact list_len zs _ _ _ (by omega) _
  have hqg : ∀ q ∈ ql, Good q := by rw [← hql]; exact times_all HA.out.g0 _ _
  have HQL := Lib.hid hql
  have HX := Lib.hid hx
  have HK2 := Lib.hid hK2
  have HU := Lib.hid hu
  have HQG := Lib.hid hqg
  clear hK2 hu hql hx hqg
  by_cases hc : ((exactG zs).bl 3 x).1 = 0
  · have HQ := Lib.hid (show simpA (exactG zs) E0 E1 0 t = (makeT ⟨21, (K2 : Int), ⟨#[]⟩, (pkG (exactG zs) l7OutL ((exactG zs).bl 3 x).2).1, []⟩ (ql ++ [(E1 (pkG (exactG zs) l7OutL ((exactG zs).bl 3 x).2).2).1]), (E1 (pkG (exactG zs) l7OutL ((exactG zs).bl 3 x).2).2).2) by
      show printG (exactG zs) E0 E1 t = _
      unfold printG
      rw [HK2.out, HU.out, HX.out, HQL.out, if_pos hc]
      rfl)
    obtain ⟨y, hy⟩ : ∃ y, (pkG (exactG zs) l7OutL ((exactG zs).bl 3 x).2).1 = y := ⟨_, rfl⟩
    obtain ⟨z, hz⟩ : ∃ z, (pkG (exactG zs) l7OutL ((exactG zs).bl 3 x).2).2 = z := ⟨_, rfl⟩
    have HY := Lib.hid hy
    have HZZ := Lib.hid hz
    rw [hy, hz] at HQ
    clear hy hz
    go_enter Try.func58, Try.ntmps58
    go_wp2_with fail
    refine (bl_ok 9 (by decide) HK.out HI.out).mono ?_
    rintro e w0 ⟨rfl, I0, G0⟩
    rw [HT.out] at I0
    have hZ0 := G0.size
    have hp0 := HI.out.lt
    go_wp2_with fail
    refine (bl_ok 2 (by decide) HK2.out I0).mono ?_
    rintro e w1 ⟨rfl, I1, G1⟩
    rw [HU.out] at I1
    have GG1 := Lib.hid (grown_trans G0 G1)
    have hZ1 := GG1.out.size
    obtain ⟨wb, hwb⟩ : ∃ wb, wb = w1.alloc (.cells #[.int .i64 21, .int .i64 (K2 : Int), .string ⟨#[]⟩, .string ⟨#[]⟩, .slice none 0 0] 26) := ⟨_, rfl⟩
    have HWB := Lib.hid hwb
    have hbb : wb.heap[w1.heap.size]? = some (.cells #[.int .i64 21, .int .i64 (K2 : Int), .string ⟨#[]⟩, .string ⟨#[]⟩, .slice none 0 0] 26 (0, 0)) := by rw [hwb]; exact heap_alloc_new w1 _
    have hsb : wb.heap.size = w1.heap.size + 1 := by rw [hwb]; simp
    have hbw : Below w1.heap.size w1 wb := by rw [hwb]; exact (Below.refl _ _).alloc (Nat.le_refl _) _
    have IB := Lib.hid (I1.keep hbw I1.lt)
    have GB := Lib.hid (grown_below GG1.out (hbw.mono hZ1) rfl)
    have b1 : wb.cell? ⟨w1.heap.size, 1, none⟩ = some (.int .i64 (K2 : Int)) := by rw [cell_of_row _ _ 1 _ _ _ hbb]; rfl
    clear hwb hbw G0 G1
    go_wp2_with fail
    rw [← HWB.out]
    refine (list_ok K2 3 _ E0 (by omega) (by decide) HA.out.h0 IB.out).mono ?_
    rintro e w3 ⟨g3, c3, vs3, he, L3, GL3⟩
    rw [HQL.out] at he L3
    rw [HX.out] at L3
    rw [← L3.ln] at he
    subst he
    have HL3 := Lib.hid L3
    have GG3 := Lib.hid (grown_trans GB.out GL3)
    have hb3 : w3.heap[w1.heap.size]? = some (.cells #[.int .i64 21, .int .i64 (K2 : Int), .string ⟨#[]⟩, .string ⟨#[]⟩, .slice none 0 0] 26 (0, 0)) := by rw [GL3.block _ (by rw [hsb]; omega) (by simp; omega)]; exact hbb
    have HB3 := Lib.hid hb3
    have hZ3 := GL3.size
    clear L3 GL3 b1 hbb hb3
    go_wp2_with fail
    refine (once_yes 3 (by decide) hc HL3.out.cur).mono ?_
    rintro e w4 ⟨rfl, I4, G4⟩
    have HL4 := Lib.hid (HL3.out.next I4 G4)
    have GG4 := Lib.hid (grown_trans GG3.out G4)
    have hb4 : w4.heap[w1.heap.size]? = some (.cells #[.int .i64 21, .int .i64 (K2 : Int), .string ⟨#[]⟩, .string ⟨#[]⟩, .slice none 0 0] 26 (0, 0)) := by rw [G4.block _ (by omega) (by simp; omega)]; exact HB3.out
    have HB4 := Lib.hid hb4
    have hZ4 := G4.size
    clear G4 hb4
    go_wp2_with fail
    refine (pick_ok 3 l7OutL I4 rfl (by decide) (by decide)).mono ?_
    rintro e w5 ⟨⟨he, I5, G5⟩, Z5⟩
    rw [HY.out] at he
    rw [HZZ.out] at I5
    subst he
    have HL5 := Lib.hid (HL4.out.next I5 G5)
    have GG5 := Lib.hid (grown_trans GG4.out G5)
    have hb5 : w5.heap[w1.heap.size]? = some (.cells #[.int .i64 21, .int .i64 (K2 : Int), .string ⟨#[]⟩, .string ⟨#[]⟩, .slice none 0 0] 26 (0, 0)) := by rw [G5.block _ (by omega) (by simp; omega)]; exact HB4.out
    have y5 : w5.cell? ⟨w1.heap.size, 3, none⟩ = some (.string ⟨#[]⟩) := by rw [cell_of_row _ _ 3 _ _ _ hb5]; rfl
    have f5 : w5.frozen? ⟨w1.heap.size, 3, none⟩ = false := frozen_of_row _ _ 3 _ _ hb5
    have hZ5 := G5.size
    obtain ⟨w6, hw6⟩ : ∃ w6, w6 = w5.setCell ⟨w1.heap.size, 3, none⟩ (.string y) := ⟨_, rfl⟩
    have HW6 := Lib.hid hw6
    have HL6 := Lib.hid (show LS B p len cap a zs wb.heap.size g3 c3 vs3 ql z w6 by rw [hw6]; exact HL5.out.set _ 3 _ (by omega) (by omega))
    have hb6 : w6.heap[w1.heap.size]? = some (.cells #[.int .i64 21, .int .i64 (K2 : Int), .string ⟨#[]⟩, .string y, .slice none 0 0] 26 (0, 0)) := by rw [hw6]; exact heap_setCell_same _ _ 3 _ _ _ hb5
    have GG6 := Lib.hid (show w.grownBy w6 (some p) by rw [hw6]; exact grown_below GG5.out ((Below.refl w.heap.size w5).setCell (p := ⟨w1.heap.size, 3, none⟩) hZ1 _) rfl)
    have HB6 := Lib.hid hb6
    have hZ6 : w6.heap.size = w5.heap.size := by rw [hw6]; simp [World.setCell]
    clear G5 hb5 hw6 hb6 I5 I4
    go_wp2_with fail
    rw [← HW6.out]
    refine (HA.out.h1 _ _ HL6.out.cur).mono ?_
    rintro e w7 ⟨u7, rfl, T7, I7, G7⟩
    obtain ⟨a7, c7, rfl⟩ := T7.form
    have HT7 := Lib.hid T7
    have HL7 := Lib.hid (HL6.out.next I7 G7)
    have GG7 := Lib.hid (grown_trans GG6.out G7)
    have hb7 : w7.heap[w1.heap.size]? = some (.cells #[.int .i64 21, .int .i64 (K2 : Int), .string ⟨#[]⟩, .string y, .slice none 0 0] 26 (0, 0)) := by rw [G7.block _ (by omega) (by simp; omega)]; exact HB6.out
    have HB7 := Lib.hid hb7
    have hZ7 := G7.size
    have HG3 := Lib.hid HL6.out.g_lt
    have hvn : vs3.length ≤ 3 := by have := HL7.out.ln; omega
    clear T7 I7 G7 hb7 y5 f5
    go_wp2_with (refine wpList_append_tree _ _ rfl _ _ rfl wb.heap.size (.slice (some ⟨g3, 0, none⟩) vs3.length c3) vs3 rfl HL7.out.own rfl rfl (by omega) HL7.out.lw ?_; intro g8 c8 w8 own8 gr8 or8; have HL8 := Lib.hid (HL7.out.push HT7.out HG3.out.2 own8 gr8 (or8.imp (fun e => by simpa [Value.ownBlock] using e) id)); have GG8 := Lib.hid (HL7.out.grown GG7.out (by omega) gr8); have hb8 : w8.heap[w1.heap.size]? = some (.cells #[.int .i64 21, .int .i64 (K2 : Int), .string ⟨#[]⟩, .string y, .slice none 0 0] 26 (0, 0)) := (gr8.block _ (by omega) (by have := HG3.out.1; simp [Value.ownBlock]; omega)).trans HB7.out; have k0 : w8.cell? ⟨w1.heap.size, 0, none⟩ = some (.int .i64 21) := (cell_of_row _ _ 0 _ _ _ hb8).trans rfl; have k1 : w8.cell? ⟨w1.heap.size, 1, none⟩ = some (.int .i64 (K2 : Int)) := (cell_of_row _ _ 1 _ _ _ hb8).trans rfl; have k2 : w8.cell? ⟨w1.heap.size, 2, none⟩ = some (.string ⟨#[]⟩) := (cell_of_row _ _ 2 _ _ _ hb8).trans rfl; have k3 : w8.cell? ⟨w1.heap.size, 3, none⟩ = some (.string y) := (cell_of_row _ _ 3 _ _ _ hb8).trans rfl; have k4 : w8.cell? ⟨w1.heap.size, 4, none⟩ = some (.slice none 0 0) := (cell_of_row _ _ 4 _ _ _ hb8).trans rfl)
    refine (good_partsN (n := ⟨21, (K2 : Int), ⟨#[]⟩, y, []⟩) (qs := ql ++ [(E1 z).1]) (by have := HL7.out.ln; simp; omega) HL8.out.parts (fun q hq => by
      rcases List.mem_append.1 hq with h | h
      · exact HQG.out q h
      · rw [List.mem_singleton] at h; rw [h]; exact HA.out.g1 _) (by simp; omega)).mono ?_
    rintro e w9 hmk
    have HM := Lib.hid (TOut.make HL8.out.cur HI.out.lt GG8.out (Below.refl _ _) hmk)
    clear hmk
    obtain ⟨vz, rfl, _⟩ := HM.out
    go_wp2
    go_ret
    rw [HQ.out]
    exact HM.out
  · have HQ := Lib.hid (show simpA (exactG zs) E0 E1 0 t = (makeT (nodeO 21 (K2 : Int)) ql, ((exactG zs).bl 3 x).2) by
      show printG (exactG zs) E0 E1 t = _
      unfold printG
      rw [HK2.out, HU.out, HX.out, HQL.out, if_neg hc]
      rfl)
    go_enter Try.func58, Try.ntmps58
    go_wp2_with fail
    refine (bl_ok 9 (by decide) HK.out HI.out).mono ?_
    rintro e w0 ⟨rfl, I0, G0⟩
    rw [HT.out] at I0
    have hZ0 := G0.size
    have hp0 := HI.out.lt
    go_wp2_with fail
    refine (bl_ok 2 (by decide) HK2.out I0).mono ?_
    rintro e w1 ⟨rfl, I1, G1⟩
    rw [HU.out] at I1
    have GG1 := Lib.hid (grown_trans G0 G1)
    have hZ1 := GG1.out.size
    obtain ⟨wb, hwb⟩ : ∃ wb, wb = w1.alloc (.cells #[.int .i64 21, .int .i64 (K2 : Int), .string ⟨#[]⟩, .string ⟨#[]⟩, .slice none 0 0] 26) := ⟨_, rfl⟩
    have HWB := Lib.hid hwb
    have hbb : wb.heap[w1.heap.size]? = some (.cells #[.int .i64 21, .int .i64 (K2 : Int), .string ⟨#[]⟩, .string ⟨#[]⟩, .slice none 0 0] 26 (0, 0)) := by rw [hwb]; exact heap_alloc_new w1 _
    have hsb : wb.heap.size = w1.heap.size + 1 := by rw [hwb]; simp
    have hbw : Below w1.heap.size w1 wb := by rw [hwb]; exact (Below.refl _ _).alloc (Nat.le_refl _) _
    have IB := Lib.hid (I1.keep hbw I1.lt)
    have GB := Lib.hid (grown_below GG1.out (hbw.mono hZ1) rfl)
    have b1 : wb.cell? ⟨w1.heap.size, 1, none⟩ = some (.int .i64 (K2 : Int)) := by rw [cell_of_row _ _ 1 _ _ _ hbb]; rfl
    clear hwb hbw G0 G1
    go_wp2_with fail
    rw [← HWB.out]
    refine (list_ok K2 3 _ E0 (by omega) (by decide) HA.out.h0 IB.out).mono ?_
    rintro e w3 ⟨g3, c3, vs3, he, L3, GL3⟩
    rw [HQL.out] at he L3
    rw [HX.out] at L3
    subst he
    have HL3 := Lib.hid L3
    have GG3 := Lib.hid (grown_trans GB.out GL3)
    have hb3 : w3.heap[w1.heap.size]? = some (.cells #[.int .i64 21, .int .i64 (K2 : Int), .string ⟨#[]⟩, .string ⟨#[]⟩, .slice none 0 0] 26 (0, 0)) := by rw [GL3.block _ (by rw [hsb]; omega) (by simp; omega)]; exact hbb
    have HB3 := Lib.hid hb3
    have hZ3 := GL3.size
    clear L3 GL3 b1 hbb hb3
    go_wp2_with fail
    refine (once_no 3 (by decide) hc HL3.out.cur).mono ?_
    rintro e w4 ⟨rfl, I4, G4⟩
    have HL4 := Lib.hid (HL3.out.next I4 G4)
    have GG4 := Lib.hid (grown_trans GG3.out G4)
    have hb4 : w4.heap[w1.heap.size]? = some (.cells #[.int .i64 21, .int .i64 (K2 : Int), .string ⟨#[]⟩, .string ⟨#[]⟩, .slice none 0 0] 26 (0, 0)) := by rw [G4.block _ (by omega) (by simp; omega)]; exact HB3.out
    have HB4 := Lib.hid hb4
    have hZ4 := G4.size
    have k0 : w4.cell? ⟨w1.heap.size, 0, none⟩ = some (.int .i64 21) := (cell_of_row _ _ 0 _ _ _ hb4).trans rfl
    have k1 : w4.cell? ⟨w1.heap.size, 1, none⟩ = some (.int .i64 (K2 : Int)) := (cell_of_row _ _ 1 _ _ _ hb4).trans rfl
    have k2 : w4.cell? ⟨w1.heap.size, 2, none⟩ = some (.string ⟨#[]⟩) := (cell_of_row _ _ 2 _ _ _ hb4).trans rfl
    have k3 : w4.cell? ⟨w1.heap.size, 3, none⟩ = some (.string ⟨#[]⟩) := (cell_of_row _ _ 3 _ _ _ hb4).trans rfl
    have k4 : w4.cell? ⟨w1.heap.size, 4, none⟩ = some (.slice none 0 0) := (cell_of_row _ _ 4 _ _ _ hb4).trans rfl
    clear G4 hb4 I4
    go_wp2_with fail
    refine (good_parts (n := nodeO 21 (K2 : Int)) HL4.out.parts HQG.out (by omega)).mono ?_
    rintro e w9 hmk
    have HM := Lib.hid (TOut.make HL4.out.cur HI.out.lt GG4.out (Below.refl _ _) hmk)
    clear hmk
    obtain ⟨vz, rfl, _⟩ := HM.out
    go_wp2
    go_ret
    rw [HQ.out]
    exact HM.out
set_option maxRecDepth 20000 in
set_option maxHeartbeats 1600000 in
theorem simp1 {w : World} {s t : St} (hA : Sim B p len cap a zs D E0 E1 k) (H : In B w p a len cap zs s) (hK : ((exactG zs).bl 9 s).1 = 1) (ht : ((exactG zs).bl 9 s).2 = t) :
    Calls Try.prog 58 #[.pointer (some ⟨p, 0, none⟩), .int .i64 D] w (TOut B p a len cap zs (simpA (exactG zs) E0 E1 1 t).1 (simpA (exactG zs) E0 E1 1 t).2 w) := by
  have HA := Lib.hid hA
  have HI := Lib.hid H
  have HK := Lib.hid hK
  have HT := Lib.hid ht
  have d0 := hA.d0
  have d1 := hA.d1
  clear hA H hK ht
  obtain ⟨K2, hK2⟩ : ∃ K2, ((exactG zs).bl 2 t).1 = K2 := ⟨_, rfl⟩
  obtain ⟨u, hu⟩ : ∃ u, ((exactG zs).bl 2 t).2 = u := ⟨_, rfl⟩
  have hk2 := exact_lt zs 2 t (by decide)
  rw [hK2] at hk2
  obtain ⟨ql, hql⟩ : ∃ ql, (listG (exactG zs) E0 K2 3 u).1 = ql := ⟨_, rfl⟩
  obtain ⟨x, hx⟩ : ∃ x, (listG (exactG zs) E0 K2 3 u).2 = x := ⟨_, rfl⟩
  have hqn : ql.length ≤ 3 := by rw [← hql]; exact list_len zs _ _ _ (by omega) _
  have hqg : ∀ q ∈ ql, Good q := by rw [← hql]; exact times_all HA.out.g0 _ _
  have HQL := Lib.hid hql
  have HX := Lib.hid hx
  have HK2 := Lib.hid hK2
  have HU := Lib.hid hu
  have HQG := Lib.hid hqg
  clear hK2 hu hql hx hqg
  by_cases hc : ((exactG zs).bl 3 x).1 = 0
  · have HQ := Lib.hid (show simpA (exactG zs) E0 E1 1 t = (makeT ⟨21, (K2 : Int), ⟨#[]⟩, (pkG (exactG zs) l7OutL ((exactG zs).bl 3 x).2).1, []⟩ (ql ++ [(E1 (pkG (exactG zs) l7OutL ((exactG zs).bl 3 x).2).2).1]), (E1 (pkG (exactG zs) l7OutL ((exactG zs).bl 3 x).2).2).2) by
      show printG (exactG zs) E0 E1 t = _
      unfold printG
      rw [HK2.out, HU.out, HX.out, HQL.out, if_pos hc]
      rfl)
    obtain ⟨y, hy⟩ : ∃ y, (pkG (exactG zs) l7OutL ((exactG zs).bl 3 x).2).1 = y := ⟨_, rfl⟩
    obtain ⟨z, hz⟩ : ∃ z, (pkG (exactG zs) l7OutL ((exactG zs).bl 3 x).2).2 = z := ⟨_, rfl⟩
    have HY := Lib.hid hy
    have HZZ := Lib.hid hz
    rw [hy, hz] at HQ
    clear hy hz
    go_enter Try.func58, Try.ntmps58
    go_wp2_with fail
    refine (bl_ok 9 (by decide) HK.out HI.out).mono ?_
    rintro e w0 ⟨rfl, I0, G0⟩
    rw [HT.out] at I0
    have hZ0 := G0.size
    have hp0 := HI.out.lt
    go_wp2_with fail
    refine (bl_ok 2 (by decide) HK2.out I0).mono ?_
    rintro e w1 ⟨rfl, I1, G1⟩
    rw [HU.out] at I1
    have GG1 := Lib.hid (grown_trans G0 G1)
    have hZ1 := GG1.out.size
    obtain ⟨wb, hwb⟩ : ∃ wb, wb = w1.alloc (.cells #[.int .i64 21, .int .i64 (K2 : Int), .string ⟨#[]⟩, .string ⟨#[]⟩, .slice none 0 0] 26) := ⟨_, rfl⟩
    have HWB := Lib.hid hwb
    have hbb : wb.heap[w1.heap.size]? = some (.cells #[.int .i64 21, .int .i64 (K2 : Int), .string ⟨#[]⟩, .string ⟨#[]⟩, .slice none 0 0] 26 (0, 0)) := by rw [hwb]; exact heap_alloc_new w1 _
    have hsb : wb.heap.size = w1.heap.size + 1 := by rw [hwb]; simp
    have hbw : Below w1.heap.size w1 wb := by rw [hwb]; exact (Below.refl _ _).alloc (Nat.le_refl _) _
    have IB := Lib.hid (I1.keep hbw I1.lt)
    have GB := Lib.hid (grown_below GG1.out (hbw.mono hZ1) rfl)
    have b1 : wb.cell? ⟨w1.heap.size, 1, none⟩ = some (.int .i64 (K2 : Int)) := by rw [cell_of_row _ _ 1 _ _ _ hbb]; rfl
    clear hwb hbw G0 G1
    go_wp2_with fail
    rw [← HWB.out]
    refine (list_ok K2 3 _ E0 (by omega) (by decide) HA.out.h0 IB.out).mono ?_
    rintro e w3 ⟨g3, c3, vs3, he, L3, GL3⟩
    rw [HQL.out] at he L3
    rw [HX.out] at L3
    rw [← L3.ln] at he
    subst he
    have HL3 := Lib.hid L3
    have GG3 := Lib.hid (grown_trans GB.out GL3)
    have hb3 : w3.heap[w1.heap.size]? = some (.cells #[.int .i64 21, .int .i64 (K2 : Int), .string ⟨#[]⟩, .string ⟨#[]⟩, .slice none 0 0] 26 (0, 0)) := by rw [GL3.block _ (by rw [hsb]; omega) (by simp; omega)]; exact hbb
    have HB3 := Lib.hid hb3
    have hZ3 := GL3.size
    clear L3 GL3 b1 hbb hb3
    go_wp2_with fail
    refine (once_yes 3 (by decide) hc HL3.out.cur).mono ?_
    rintro e w4 ⟨rfl, I4, G4⟩
    have HL4 := Lib.hid (HL3.out.next I4 G4)
    have GG4 := Lib.hid (grown_trans GG3.out G4)
    have hb4 : w4.heap[w1.heap.size]? = some (.cells #[.int .i64 21, .int .i64 (K2 : Int), .string ⟨#[]⟩, .string ⟨#[]⟩, .slice none 0 0] 26 (0, 0)) := by rw [G4.block _ (by omega) (by simp; omega)]; exact HB3.out
    have HB4 := Lib.hid hb4
    have hZ4 := G4.size
    clear G4 hb4
    go_wp2_with fail
    refine (pick_ok 3 l7OutL I4 rfl (by decide) (by decide)).mono ?_
    rintro e w5 ⟨⟨he, I5, G5⟩, Z5⟩
    rw [HY.out] at he
    rw [HZZ.out] at I5
    subst he
    have HL5 := Lib.hid (HL4.out.next I5 G5)
    have GG5 := Lib.hid (grown_trans GG4.out G5)
    have hb5 : w5.heap[w1.heap.size]? = some (.cells #[.int .i64 21, .int .i64 (K2 : Int), .string ⟨#[]⟩, .string ⟨#[]⟩, .slice none 0 0] 26 (0, 0)) := by rw [G5.block _ (by omega) (by simp; omega)]; exact HB4.out
    have y5 : w5.cell? ⟨w1.heap.size, 3, none⟩ = some (.string ⟨#[]⟩) := by rw [cell_of_row _ _ 3 _ _ _ hb5]; rfl
    have f5 : w5.frozen? ⟨w1.heap.size, 3, none⟩ = false := frozen_of_row _ _ 3 _ _ hb5
    have hZ5 := G5.size
    obtain ⟨w6, hw6⟩ : ∃ w6, w6 = w5.setCell ⟨w1.heap.size, 3, none⟩ (.string y) := ⟨_, rfl⟩
    have HW6 := Lib.hid hw6
    have HL6 := Lib.hid (show LS B p len cap a zs wb.heap.size g3 c3 vs3 ql z w6 by rw [hw6]; exact HL5.out.set _ 3 _ (by omega) (by omega))
    have hb6 : w6.heap[w1.heap.size]? = some (.cells #[.int .i64 21, .int .i64 (K2 : Int), .string ⟨#[]⟩, .string y, .slice none 0 0] 26 (0, 0)) := by rw [hw6]; exact heap_setCell_same _ _ 3 _ _ _ hb5
    have GG6 := Lib.hid (show w.grownBy w6 (some p) by rw [hw6]; exact grown_below GG5.out ((Below.refl w.heap.size w5).setCell (p := ⟨w1.heap.size, 3, none⟩) hZ1 _) rfl)
    have HB6 := Lib.hid hb6
    have hZ6 : w6.heap.size = w5.heap.size := by rw [hw6]; simp [World.setCell]
    clear G5 hb5 hw6 hb6 I5 I4
    go_wp2_with fail
    rw [← HW6.out]
    refine (HA.out.h1 _ _ HL6.out.cur).mono ?_
    rintro e w7 ⟨u7, rfl, T7, I7, G7⟩
    obtain ⟨a7, c7, rfl⟩ := T7.form
    have HT7 := Lib.hid T7
    have HL7 := Lib.hid (HL6.out.next I7 G7)
    have GG7 := Lib.hid (grown_trans GG6.out G7)
    have hb7 : w7.heap[w1.heap.size]? = some (.cells #[.int .i64 21, .int .i64 (K2 : Int), .string ⟨#[]⟩, .string y, .slice none 0 0] 26 (0, 0)) := by rw [G7.block _ (by omega) (by simp; omega)]; exact HB6.out
    have HB7 := Lib.hid hb7
    have hZ7 := G7.size
    have HG3 := Lib.hid HL6.out.g_lt
    have hvn : vs3.length ≤ 3 := by have := HL7.out.ln; omega
    clear T7 I7 G7 hb7 y5 f5
    go_wp2_with (refine wpList_append_tree _ _ rfl _ _ rfl wb.heap.size (.slice (some ⟨g3, 0, none⟩) vs3.length c3) vs3 rfl HL7.out.own rfl rfl (by omega) HL7.out.lw ?_; intro g8 c8 w8 own8 gr8 or8; have HL8 := Lib.hid (HL7.out.push HT7.out HG3.out.2 own8 gr8 (or8.imp (fun e => by simpa [Value.ownBlock] using e) id)); have GG8 := Lib.hid (HL7.out.grown GG7.out (by omega) gr8); have hb8 : w8.heap[w1.heap.size]? = some (.cells #[.int .i64 21, .int .i64 (K2 : Int), .string ⟨#[]⟩, .string y, .slice none 0 0] 26 (0, 0)) := (gr8.block _ (by omega) (by have := HG3.out.1; simp [Value.ownBlock]; omega)).trans HB7.out; have k0 : w8.cell? ⟨w1.heap.size, 0, none⟩ = some (.int .i64 21) := (cell_of_row _ _ 0 _ _ _ hb8).trans rfl; have k1 : w8.cell? ⟨w1.heap.size, 1, none⟩ = some (.int .i64 (K2 : Int)) := (cell_of_row _ _ 1 _ _ _ hb8).trans rfl; have k2 : w8.cell? ⟨w1.heap.size, 2, none⟩ = some (.string ⟨#[]⟩) := (cell_of_row _ _ 2 _ _ _ hb8).trans rfl; have k3 : w8.cell? ⟨w1.heap.size, 3, none⟩ = some (.string y) := (cell_of_row _ _ 3 _ _ _ hb8).trans rfl; have k4 : w8.cell? ⟨w1.heap.size, 4, none⟩ = some (.slice none 0 0) := (cell_of_row _ _ 4 _ _ _ hb8).trans rfl)
    refine (good_partsN (n := ⟨21, (K2 : Int), ⟨#[]⟩, y, []⟩) (qs := ql ++ [(E1 z).1]) (by have := HL7.out.ln; simp; omega) HL8.out.parts (fun q hq => by
      rcases List.mem_append.1 hq with h | h
      · exact HQG.out q h
      · rw [List.mem_singleton] at h; rw [h]; exact HA.out.g1 _) (by simp; omega)).mono ?_
    rintro e w9 hmk
    have HM := Lib.hid (TOut.make HL8.out.cur HI.out.lt GG8.out (Below.refl _ _) hmk)
    clear hmk
    obtain ⟨vz, rfl, _⟩ := HM.out
    go_wp2
    go_ret
    rw [HQ.out]
    exact HM.out
  · have HQ := Lib.hid (show simpA (exactG zs) E0 E1 1 t = (makeT (nodeO 21 (K2 : Int)) ql, ((exactG zs).bl 3 x).2) by
      show printG (exactG zs) E0 E1 t = _
      unfold printG
      rw [HK2.out, HU.out, HX.out, HQL.out, if_neg hc]
      rfl)
    go_enter Try.func58, Try.ntmps58
    go_wp2_with fail
    refine (bl_ok 9 (by decide) HK.out HI.out).mono ?_
    rintro e w0 ⟨rfl, I0, G0⟩
    rw [HT.out] at I0
    have hZ0 := G0.size
    have hp0 := HI.out.lt
    go_wp2_with fail
    refine (bl_ok 2 (by decide) HK2.out I0).mono ?_
    rintro e w1 ⟨rfl, I1, G1⟩
    rw [HU.out] at I1
    have GG1 := Lib.hid (grown_trans G0 G1)
    have hZ1 := GG1.out.size
    obtain ⟨wb, hwb⟩ : ∃ wb, wb = w1.alloc (.cells #[.int .i64 21, .int .i64 (K2 : Int), .string ⟨#[]⟩, .string ⟨#[]⟩, .slice none 0 0] 26) := ⟨_, rfl⟩
    have HWB := Lib.hid hwb
    have hbb : wb.heap[w1.heap.size]? = some (.cells #[.int .i64 21, .int .i64 (K2 : Int), .string ⟨#[]⟩, .string ⟨#[]⟩, .slice none 0 0] 26 (0, 0)) := by rw [hwb]; exact heap_alloc_new w1 _
    have hsb : wb.heap.size = w1.heap.size + 1 := by rw [hwb]; simp
    have hbw : Below w1.heap.size w1 wb := by rw [hwb]; exact (Below.refl _ _).alloc (Nat.le_refl _) _
    have IB := Lib.hid (I1.keep hbw I1.lt)
    have GB := Lib.hid (grown_below GG1.out (hbw.mono hZ1) rfl)
    have b1 : wb.cell? ⟨w1.heap.size, 1, none⟩ = some (.int .i64 (K2 : Int)) := by rw [cell_of_row _ _ 1 _ _ _ hbb]; rfl
    clear hwb hbw G0 G1
    go_wp2_with fail
    rw [← HWB.out]
    refine (list_ok K2 3 _ E0 (by omega) (by decide) HA.out.h0 IB.out).mono ?_
    rintro e w3 ⟨g3, c3, vs3, he, L3, GL3⟩
    rw [HQL.out] at he L3
    rw [HX.out] at L3
    subst he
    have HL3 := Lib.hid L3
    have GG3 := Lib.hid (grown_trans GB.out GL3)
    have hb3 : w3.heap[w1.heap.size]? = some (.cells #[.int .i64 21, .int .i64 (K2 : Int), .string ⟨#[]⟩, .string ⟨#[]⟩, .slice none 0 0] 26 (0, 0)) := by rw [GL3.block _ (by rw [hsb]; omega) (by simp; omega)]; exact hbb
    have HB3 := Lib.hid hb3
    have hZ3 := GL3.size
    clear L3 GL3 b1 hbb hb3
    go_wp2_with fail
    refine (once_no 3 (by decide) hc HL3.out.cur).mono ?_
    rintro e w4 ⟨rfl, I4, G4⟩
    have HL4 := Lib.hid (HL3.out.next I4 G4)
    have GG4 := Lib.hid (grown_trans GG3.out G4)
    have hb4 : w4.heap[w1.heap.size]? = some (.cells #[.int .i64 21, .int .i64 (K2 : Int), .string ⟨#[]⟩, .string ⟨#[]⟩, .slice none 0 0] 26 (0, 0)) := by rw [G4.block _ (by omega) (by simp; omega)]; exact HB3.out
    have HB4 := Lib.hid hb4
    have hZ4 := G4.size
    have k0 : w4.cell? ⟨w1.heap.size, 0, none⟩ = some (.int .i64 21) := (cell_of_row _ _ 0 _ _ _ hb4).trans rfl
    have k1 : w4.cell? ⟨w1.heap.size, 1, none⟩ = some (.int .i64 (K2 : Int)) := (cell_of_row _ _ 1 _ _ _ hb4).trans rfl
    have k2 : w4.cell? ⟨w1.heap.size, 2, none⟩ = some (.string ⟨#[]⟩) := (cell_of_row _ _ 2 _ _ _ hb4).trans rfl
    have k3 : w4.cell? ⟨w1.heap.size, 3, none⟩ = some (.string ⟨#[]⟩) := (cell_of_row _ _ 3 _ _ _ hb4).trans rfl
    have k4 : w4.cell? ⟨w1.heap.size, 4, none⟩ = some (.slice none 0 0) := (cell_of_row _ _ 4 _ _ _ hb4).trans rfl
    clear G4 hb4 I4
    go_wp2_with fail
    refine (good_parts (n := nodeO 21 (K2 : Int)) HL4.out.parts HQG.out (by omega)).mono ?_
    rintro e w9 hmk
    have HM := Lib.hid (TOut.make HL4.out.cur HI.out.lt GG4.out (Below.refl _ _) hmk)
    clear hmk
    obtain ⟨vz, rfl, _⟩ := HM.out
    go_wp2
    go_ret
    rw [HQ.out]
    exact HM.out
theorem simple_ok (hA : Sim B p len cap a zs D E0 E1 k) : ExprC B p len cap a zs 58 D (simpleG (exactG zs) E0 E1) := by
  intro w s H
  obtain ⟨K, hK⟩ : ∃ K, ((exactG zs).bl 9 s).1 = K := ⟨_, rfl⟩
  obtain ⟨t, ht⟩ : ∃ t, ((exactG zs).bl 9 s).2 = t := ⟨_, rfl⟩
  have hb := exact_lt zs 9 s (by decide)
  rw [simple_arm, hK, ht]
  rw [hK] at hb
  rcases (show K = 0 ∨ K = 1 ∨ K = 2 ∨ K = 3 ∨ K = 4 ∨ K = 5 ∨ K = 6 ∨ K = 7 ∨ K = 8 by omega) with rfl | rfl | rfl | rfl | rfl | rfl | rfl | rfl | rfl
  · exact simp0 hA H hK ht
  · exact simp1 hA H hK ht
  · exact simp2 hA H hK ht
  · exact simp3 hA H hK ht
  · exact simp4 hA H hK ht
  · exact simp5 hA H hK ht
  · exact simp6 hA H hK ht
  · exact simp7 hA H hK ht
  · exact simp8 hA H hK ht
theorem simple_small {k : Nat} (zs : List Int) {E0 E1 : St → List Nd × St} (h0 : SmE k E0) (h1 : SmE k E1) : SmE (1 + 4 * k) (simpleG (exactG zs) E0 E1) := by
  intro s
  rw [simple_arm]
  have hp : ∀ t, Small (1 + 4 * k) (printG (exactG zs) E0 E1 t).1 := by
    intro t
    have h2 := exact_lt zs 2 t (by decide)
    obtain ⟨l1, l2⟩ := list_small zs h0 ((exactG zs).bl 2 t).1 3 (by omega) ((exactG zs).bl 2 t).2
    unfold printG
    split
    · refine sm_list (m := 4) _ ⟨fun q hq => ?_, by simp; omega⟩ (by decide)
      rcases List.mem_append.1 hq with h | h
      · exact l1 q h
      · rw [List.mem_singleton] at h; rw [h]; exact h1 _
    · exact (sm_list (m := 3) _ ⟨l1, l2⟩ (by decide)).mono (by omega)
  generalize ((exactG zs).bl 9 s).1 = b
  generalize ((exactG zs).bl 9 s).2 = t
  rcases b with _ | _ | _ | _ | _ | _ | b
  · exact hp t
  · exact hp t
  · exact (sm0 _).mono (by omega)
  · exact (sm_list _ (list_small zs h0 0 1 (by omega) _) (by decide)).mono (by omega)
  · exact (sm_list _ (list_small zs h1 0 2 (by omega) _) (by decide)).mono (by omega)
  · show Small _ (if ((exactG zs).bl 2 t).1 = 0 then _ else _ : List Nd × St).1
    split
    · exact (sm0 _).mono (by omega)
    · exact (sm1 _ (h0 _)).mono (by omega)
  · exact (sm1 _ (h0 _)).mono (by omega)
theorem maybe_small {k : Nat} (zs : List Int) {E : St → List Nd × St} (h : SmE k E) : SmE (1 + k) (maybeG (exactG zs) E) := by
  intro s
  unfold maybeG
  split
  · exact (sm0 _).mono (by omega)
  · exact (h _).mono (by omega)
end
end Go.Proofs.Ytldkhdoboieibaa.draw
