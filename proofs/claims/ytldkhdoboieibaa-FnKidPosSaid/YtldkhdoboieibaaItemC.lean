/-
  spec.l7Item by the plain drawing functions.
-/
import Derived.Test.YtldkhdoboieibaaStmtC
namespace Go.Proofs.Ytldkhdoboieibaa.draw
open Go.ChangeShapes Go.WideShapes Go.ChangeAt Go.RowKit
open nd
set_option linter.unusedVariables false
set_option maxRecDepth 20000

section
variable {B p len cap : Nat} {a : Option Addr} {zs : List Int}
/-- What an item's arms may use. -/
structure Itm (B p len cap : Nat) (a : Option Addr) (zs : List Int) (D : Int) (A1 Ed Bk : St → List Nd × St) : Prop where
  d0 : 1 ≤ D
  d1 : D ≤ 2
  a1 : ExprC B p len cap a zs 46 1 A1
  e : ExprC B p len cap a zs 46 D Ed
  b : ExprC B p len cap a zs 59 D Bk
  s1 : SmE 21 A1
  se : SmE 21 Ed
  sb : SmE 5000 Bk
variable {D : Int} {A1 Ed Bk : St → List Nd × St}
theorem Itm.g1 (h : Itm B p len cap a zs D A1 Ed Bk) (s : St) : Good (A1 s).1 := (h.s1 s).good (by decide)
theorem Itm.ge (h : Itm B p len cap a zs D A1 Ed Bk) (s : St) : Good (Ed s).1 := (h.se s).good (by decide)
theorem Itm.gb (h : Itm B p len cap a zs D A1 Ed Bk) (s : St) : Good (Bk s).1 := (h.sb s).good (by decide)
def funcG {σ T : Type} (g : Gen σ T) (B : σ → T × σ) (t : σ) : T × σ :=
  let n := g.bl 3 t; let l := timesG (wordG g) n.1 n.2; let x := pkG g l7NameL l.2; let k := B x.2; (g.nd (nodeS 44 x.1) (l.1 ++ [k.1]), k.2)
def itemA {σ T : Type} (g : Gen σ T) (A1 E B : σ → T × σ) (b : Nat) (t : σ) : T × σ :=
  match b with
  | 0 => let o := g.bl 2 t; let k := B o.2; (g.nd (nodeO (40 + (o.1 : Int)) 0) [k.1], k.2)
  | 1 => let e := E t; (g.nd (nodeO 42 1) [e.1], e.2)
  | 2 => let k := B t; (g.nd (nodeO 42 2) [k.1], k.2)
  | 3 => let e := A1 t; let f := A1 e.2; (g.nd (nodeO 43 1) [e.1, f.1], f.2)
  | 4 => let e := A1 t; let f := A1 e.2; let k := B f.2; (g.nd (nodeO 43 3) [e.1, f.1, k.1], k.2)
  | 5 => funcG g B t
  | 6 => let x := pkG g l7TopL t; (g.nd (nodeS 34 x.1) [], x.2)
  | _ => let e := E t; let k := B e.2; (g.nd (nodeO 42 3) [e.1, k.1], k.2)
theorem item_arm {σ T : Type} (g : Gen σ T) (s : σ) : itemG g s = itemA g (exprG g 1) (exprG g (1 + (g.bl 2 s).1)) (blockG g (stmtG g (1 + (g.bl 2 s).1))) (g.bl 8 (g.bl 2 s).2).1 (g.bl 8 (g.bl 2 s).2).2 := rfl
set_option maxHeartbeats 1600000 in
theorem item0 {w : World} {s u t : St} {K2 : Nat} (hA : Itm B p len cap a zs (1 + (K2 : Int)) A1 Ed Bk) (H : In B w p a len cap zs s) (hO : ((exactG zs).bl 2 s).1 = K2) (hk2 : K2 < 2) (hu : ((exactG zs).bl 2 s).2 = u) (hK : ((exactG zs).bl 8 u).1 = 0) (ht : ((exactG zs).bl 8 u).2 = t) :
    Calls Try.prog 61 #[.pointer (some ⟨p, 0, none⟩)] w (TOut B p a len cap zs (itemA (exactG zs) A1 Ed Bk 0 t).1 (itemA (exactG zs) A1 Ed Bk 0 t).2 w) := by
  have HA := Lib.hid hA
  have HI := Lib.hid H
  have HO := Lib.hid hO
  have HU := Lib.hid hu
  have HK := Lib.hid hK
  have HT := Lib.hid ht
  clear hA H hO hu hK ht
  obtain ⟨K3, hK3⟩ : ∃ K3, ((exactG zs).bl 2 t).1 = K3 := ⟨_, rfl⟩
  have hk3 := exact_lt zs 2 t (by decide)
  rw [hK3] at hk3
  have HQ := Lib.hid (show itemA (exactG zs) A1 Ed Bk 0 t = (makeT (nodeO (40 + (K3 : Int)) 0) [(Bk ((exactG zs).bl 2 t).2).1], (Bk ((exactG zs).bl 2 t).2).2) by rw [← hK3]; rfl)
  have HK3 := Lib.hid hK3
  clear hK3
  go_enter Try.func61, Try.ntmps61
  go_wp2_with fail
  refine (bl_ok 2 (by decide) HO.out HI.out).mono ?_
  rintro e wz ⟨rfl, Iz, Gz⟩
  rw [HU.out] at Iz
  go_wp2_with fail
  refine (bl_ok 8 (by decide) HK.out Iz).mono ?_
  rintro e w0 ⟨rfl, I0, Gy⟩
  rw [HT.out] at I0
  have G0 := Lib.hid (grown_trans Gz Gy)
  have hZ0 := G0.out.size
  clear Iz Gz Gy
  go_wp2_with fail
  refine (bl_ok 2 (by decide) HK3.out I0).mono ?_
  rintro e w1 ⟨rfl, I1, G1⟩
  have GG1 := Lib.hid (grown_trans (G0.out) G1)
  have hZ1 := GG1.out.size
  clear G1
  go_wp2_with fail
  refine (HA.out.b _ _ I1).mono ?_
  rintro e w2 ⟨v2, rfl, T2, I2, G2⟩
  obtain ⟨a2, c2, rfl⟩ := T2.form
  have GG2 := Lib.hid (grown_trans (GG1.out) G2)
  have hZ2 := GG2.out.size
  clear G2
  have X2 := Lib.hid (TR.down T2 (S' := w.heap.size) (by omega) HI.out.lt)
  clear T2
  go_wp2_with fail
  refine (good_parts (n := nodeO (40 + (K3 : Int)) 0) (parts_of [.slice a2 _ c2] [(Bk ((exactG zs).bl 2 t).2).1] rfl (fun i h _ => by have e0 : i = 0 := (by simpa using h); subst e0; exact X2.out)) (fun q hq => by
      simp only [List.mem_cons, List.not_mem_nil, or_false] at hq
      rcases hq with rfl
      · exact HA.out.gb _
      ) (by simp)).mono ?_
  rintro e w3 hmk
  have HM := Lib.hid (TOut.make I2 HI.out.lt (GG2.out) ((Below.refl _ _).alloc (Nat.le_refl _) _) hmk)
  clear hmk
  obtain ⟨vz, rfl, _⟩ := HM.out
  go_wp2
  go_ret
  rw [HQ.out]
  exact HM.out
set_option maxHeartbeats 1600000 in
theorem item1 {w : World} {s u t : St} {K2 : Nat} (hA : Itm B p len cap a zs (1 + (K2 : Int)) A1 Ed Bk) (H : In B w p a len cap zs s) (hO : ((exactG zs).bl 2 s).1 = K2) (hk2 : K2 < 2) (hu : ((exactG zs).bl 2 s).2 = u) (hK : ((exactG zs).bl 8 u).1 = 1) (ht : ((exactG zs).bl 8 u).2 = t) :
    Calls Try.prog 61 #[.pointer (some ⟨p, 0, none⟩)] w (TOut B p a len cap zs (itemA (exactG zs) A1 Ed Bk 1 t).1 (itemA (exactG zs) A1 Ed Bk 1 t).2 w) := by
  have HA := Lib.hid hA
  have HI := Lib.hid H
  have HO := Lib.hid hO
  have HU := Lib.hid hu
  have HK := Lib.hid hK
  have HT := Lib.hid ht
  clear hA H hO hu hK ht
  go_enter Try.func61, Try.ntmps61
  go_wp2_with fail
  refine (bl_ok 2 (by decide) HO.out HI.out).mono ?_
  rintro e wz ⟨rfl, Iz, Gz⟩
  rw [HU.out] at Iz
  go_wp2_with fail
  refine (bl_ok 8 (by decide) HK.out Iz).mono ?_
  rintro e w0 ⟨rfl, I0, Gy⟩
  rw [HT.out] at I0
  have G0 := Lib.hid (grown_trans Gz Gy)
  have hZ0 := G0.out.size
  clear Iz Gz Gy
  go_wp2_with fail
  refine (HA.out.e _ _ I0).mono ?_
  rintro e w1 ⟨v1, rfl, T1, I1, G1⟩
  obtain ⟨a1, c1, rfl⟩ := T1.form
  have GG1 := Lib.hid (grown_trans (G0.out) G1)
  have hZ1 := GG1.out.size
  clear G1
  have X1 := Lib.hid (TR.down T1 (S' := w.heap.size) (by omega) HI.out.lt)
  clear T1
  go_wp2_with fail
  refine (good_parts (n := nodeO 42 1) (parts_of [.slice a1 _ c1] [(Ed t).1] rfl (fun i h _ => by have e0 : i = 0 := (by simpa using h); subst e0; exact X1.out)) (fun q hq => by
      simp only [List.mem_cons, List.not_mem_nil, or_false] at hq
      rcases hq with rfl
      · exact HA.out.ge _
      ) (by simp)).mono ?_
  rintro e w2 hmk
  have HM := Lib.hid (TOut.make I1 HI.out.lt (GG1.out) ((Below.refl _ _).alloc (Nat.le_refl _) _) hmk)
  clear hmk
  obtain ⟨vz, rfl, _⟩ := HM.out
  go_wp2
  go_ret
  exact HM.out
set_option maxHeartbeats 1600000 in
theorem item2 {w : World} {s u t : St} {K2 : Nat} (hA : Itm B p len cap a zs (1 + (K2 : Int)) A1 Ed Bk) (H : In B w p a len cap zs s) (hO : ((exactG zs).bl 2 s).1 = K2) (hk2 : K2 < 2) (hu : ((exactG zs).bl 2 s).2 = u) (hK : ((exactG zs).bl 8 u).1 = 2) (ht : ((exactG zs).bl 8 u).2 = t) :
    Calls Try.prog 61 #[.pointer (some ⟨p, 0, none⟩)] w (TOut B p a len cap zs (itemA (exactG zs) A1 Ed Bk 2 t).1 (itemA (exactG zs) A1 Ed Bk 2 t).2 w) := by
  have HA := Lib.hid hA
  have HI := Lib.hid H
  have HO := Lib.hid hO
  have HU := Lib.hid hu
  have HK := Lib.hid hK
  have HT := Lib.hid ht
  clear hA H hO hu hK ht
  go_enter Try.func61, Try.ntmps61
  go_wp2_with fail
  refine (bl_ok 2 (by decide) HO.out HI.out).mono ?_
  rintro e wz ⟨rfl, Iz, Gz⟩
  rw [HU.out] at Iz
  go_wp2_with fail
  refine (bl_ok 8 (by decide) HK.out Iz).mono ?_
  rintro e w0 ⟨rfl, I0, Gy⟩
  rw [HT.out] at I0
  have G0 := Lib.hid (grown_trans Gz Gy)
  have hZ0 := G0.out.size
  clear Iz Gz Gy
  go_wp2_with fail
  refine (HA.out.b _ _ I0).mono ?_
  rintro e w1 ⟨v1, rfl, T1, I1, G1⟩
  obtain ⟨a1, c1, rfl⟩ := T1.form
  have GG1 := Lib.hid (grown_trans (G0.out) G1)
  have hZ1 := GG1.out.size
  clear G1
  have X1 := Lib.hid (TR.down T1 (S' := w.heap.size) (by omega) HI.out.lt)
  clear T1
  go_wp2_with fail
  refine (good_parts (n := nodeO 42 2) (parts_of [.slice a1 _ c1] [(Bk t).1] rfl (fun i h _ => by have e0 : i = 0 := (by simpa using h); subst e0; exact X1.out)) (fun q hq => by
      simp only [List.mem_cons, List.not_mem_nil, or_false] at hq
      rcases hq with rfl
      · exact HA.out.gb _
      ) (by simp)).mono ?_
  rintro e w2 hmk
  have HM := Lib.hid (TOut.make I1 HI.out.lt (GG1.out) ((Below.refl _ _).alloc (Nat.le_refl _) _) hmk)
  clear hmk
  obtain ⟨vz, rfl, _⟩ := HM.out
  go_wp2
  go_ret
  exact HM.out
set_option maxHeartbeats 1600000 in
theorem item3 {w : World} {s u t : St} {K2 : Nat} (hA : Itm B p len cap a zs (1 + (K2 : Int)) A1 Ed Bk) (H : In B w p a len cap zs s) (hO : ((exactG zs).bl 2 s).1 = K2) (hk2 : K2 < 2) (hu : ((exactG zs).bl 2 s).2 = u) (hK : ((exactG zs).bl 8 u).1 = 3) (ht : ((exactG zs).bl 8 u).2 = t) :
    Calls Try.prog 61 #[.pointer (some ⟨p, 0, none⟩)] w (TOut B p a len cap zs (itemA (exactG zs) A1 Ed Bk 3 t).1 (itemA (exactG zs) A1 Ed Bk 3 t).2 w) := by
  have HA := Lib.hid hA
  have HI := Lib.hid H
  have HO := Lib.hid hO
  have HU := Lib.hid hu
  have HK := Lib.hid hK
  have HT := Lib.hid ht
  clear hA H hO hu hK ht
  go_enter Try.func61, Try.ntmps61
  go_wp2_with fail
  refine (bl_ok 2 (by decide) HO.out HI.out).mono ?_
  rintro e wz ⟨rfl, Iz, Gz⟩
  rw [HU.out] at Iz
  go_wp2_with fail
  refine (bl_ok 8 (by decide) HK.out Iz).mono ?_
  rintro e w0 ⟨rfl, I0, Gy⟩
  rw [HT.out] at I0
  have G0 := Lib.hid (grown_trans Gz Gy)
  have hZ0 := G0.out.size
  clear Iz Gz Gy
  go_wp2_with fail
  refine (HA.out.a1 _ _ I0).mono ?_
  rintro e w1 ⟨v1, rfl, T1, I1, G1⟩
  obtain ⟨a1, c1, rfl⟩ := T1.form
  have GG1 := Lib.hid (grown_trans (G0.out) G1)
  have hZ1 := GG1.out.size
  clear G1
  have X1 := Lib.hid (TR.down T1 (S' := w.heap.size) (by omega) HI.out.lt)
  clear T1
  go_wp2_with fail
  refine (HA.out.a1 _ _ I1).mono ?_
  rintro e w2 ⟨v2, rfl, T2, I2, G2⟩
  obtain ⟨a2, c2, rfl⟩ := T2.form
  have X1' := Lib.hid (X1.out.grown G2)
  clear X1
  have X1 := X1'
  clear X1'
  have GG2 := Lib.hid (grown_trans (GG1.out) G2)
  have hZ2 := GG2.out.size
  clear G2
  have X2 := Lib.hid (TR.down T2 (S' := w.heap.size) (by omega) HI.out.lt)
  clear T2
  go_wp2_with fail
  refine (good_parts (n := nodeO 43 1) (parts_of [.slice a1 _ c1, .slice a2 _ c2] [(A1 t).1, (A1 (A1 t).2).1] rfl (fun i h _ => by
      have e0 : i = 0 ∨ i = 1 := (by simp at h; omega)
      rcases e0 with rfl | rfl
      · exact X1.out
      · exact X2.out
      )) (fun q hq => by
      simp only [List.mem_cons, List.not_mem_nil, or_false] at hq
      rcases hq with rfl | rfl
      · exact HA.out.g1 _
      · exact HA.out.g1 _
      ) (by simp)).mono ?_
  rintro e w3 hmk
  have HM := Lib.hid (TOut.make I2 HI.out.lt (GG2.out) ((Below.refl _ _).alloc (Nat.le_refl _) _) hmk)
  clear hmk
  obtain ⟨vz, rfl, _⟩ := HM.out
  go_wp2
  go_ret
  exact HM.out
set_option maxHeartbeats 1600000 in
theorem item4 {w : World} {s u t : St} {K2 : Nat} (hA : Itm B p len cap a zs (1 + (K2 : Int)) A1 Ed Bk) (H : In B w p a len cap zs s) (hO : ((exactG zs).bl 2 s).1 = K2) (hk2 : K2 < 2) (hu : ((exactG zs).bl 2 s).2 = u) (hK : ((exactG zs).bl 8 u).1 = 4) (ht : ((exactG zs).bl 8 u).2 = t) :
    Calls Try.prog 61 #[.pointer (some ⟨p, 0, none⟩)] w (TOut B p a len cap zs (itemA (exactG zs) A1 Ed Bk 4 t).1 (itemA (exactG zs) A1 Ed Bk 4 t).2 w) := by
  have HA := Lib.hid hA
  have HI := Lib.hid H
  have HO := Lib.hid hO
  have HU := Lib.hid hu
  have HK := Lib.hid hK
  have HT := Lib.hid ht
  clear hA H hO hu hK ht
  go_enter Try.func61, Try.ntmps61
  go_wp2_with fail
  refine (bl_ok 2 (by decide) HO.out HI.out).mono ?_
  rintro e wz ⟨rfl, Iz, Gz⟩
  rw [HU.out] at Iz
  go_wp2_with fail
  refine (bl_ok 8 (by decide) HK.out Iz).mono ?_
  rintro e w0 ⟨rfl, I0, Gy⟩
  rw [HT.out] at I0
  have G0 := Lib.hid (grown_trans Gz Gy)
  have hZ0 := G0.out.size
  clear Iz Gz Gy
  go_wp2_with fail
  refine (HA.out.a1 _ _ I0).mono ?_
  rintro e w1 ⟨v1, rfl, T1, I1, G1⟩
  obtain ⟨a1, c1, rfl⟩ := T1.form
  have GG1 := Lib.hid (grown_trans (G0.out) G1)
  have hZ1 := GG1.out.size
  clear G1
  have X1 := Lib.hid (TR.down T1 (S' := w.heap.size) (by omega) HI.out.lt)
  clear T1
  go_wp2_with fail
  refine (HA.out.a1 _ _ I1).mono ?_
  rintro e w2 ⟨v2, rfl, T2, I2, G2⟩
  obtain ⟨a2, c2, rfl⟩ := T2.form
  have X1' := Lib.hid (X1.out.grown G2)
  clear X1
  have X1 := X1'
  clear X1'
  have GG2 := Lib.hid (grown_trans (GG1.out) G2)
  have hZ2 := GG2.out.size
  clear G2
  have X2 := Lib.hid (TR.down T2 (S' := w.heap.size) (by omega) HI.out.lt)
  clear T2
  go_wp2_with fail
  refine (HA.out.b _ _ I2).mono ?_
  rintro e w3 ⟨v3, rfl, T3, I3, G3⟩
  obtain ⟨a3, c3, rfl⟩ := T3.form
  have X1' := Lib.hid (X1.out.grown G3)
  clear X1
  have X1 := X1'
  clear X1'
  have X2' := Lib.hid (X2.out.grown G3)
  clear X2
  have X2 := X2'
  clear X2'
  have GG3 := Lib.hid (grown_trans (GG2.out) G3)
  have hZ3 := GG3.out.size
  clear G3
  have X3 := Lib.hid (TR.down T3 (S' := w.heap.size) (by omega) HI.out.lt)
  clear T3
  go_wp2_with fail
  refine (good_parts (n := nodeO 43 3) (parts_of [.slice a1 _ c1, .slice a2 _ c2, .slice a3 _ c3] [(A1 t).1, (A1 (A1 t).2).1, (Bk (A1 (A1 t).2).2).1] rfl (fun i h _ => by
      have e0 : i = 0 ∨ i = 1 ∨ i = 2 := (by simp at h; omega)
      rcases e0 with rfl | rfl | rfl
      · exact X1.out
      · exact X2.out
      · exact X3.out
      )) (fun q hq => by
      simp only [List.mem_cons, List.not_mem_nil, or_false] at hq
      rcases hq with rfl | rfl | rfl
      · exact HA.out.g1 _
      · exact HA.out.g1 _
      · exact HA.out.gb _
      ) (by simp)).mono ?_
  rintro e w4 hmk
  have HM := Lib.hid (TOut.make I3 HI.out.lt (GG3.out) ((Below.refl _ _).alloc (Nat.le_refl _) _) hmk)
  clear hmk
  obtain ⟨vz, rfl, _⟩ := HM.out
  go_wp2
  go_ret
  exact HM.out
set_option maxHeartbeats 1600000 in
theorem item5 {w : World} {s u t : St} {K2 : Nat} (hA : Itm B p len cap a zs (1 + (K2 : Int)) A1 Ed Bk) (H : In B w p a len cap zs s) (hO : ((exactG zs).bl 2 s).1 = K2) (hk2 : K2 < 2) (hu : ((exactG zs).bl 2 s).2 = u) (hK : ((exactG zs).bl 8 u).1 = 5) (ht : ((exactG zs).bl 8 u).2 = t) :
    Calls Try.prog 61 #[.pointer (some ⟨p, 0, none⟩)] w (TOut B p a len cap zs (itemA (exactG zs) A1 Ed Bk 5 t).1 (itemA (exactG zs) A1 Ed Bk 5 t).2 w) := by
  have HA := Lib.hid hA
  have HI := Lib.hid H
  have HO := Lib.hid hO
  have HU := Lib.hid hu
  have HK := Lib.hid hK
  have HT := Lib.hid ht
  clear hA H hO hu hK ht
  have HP := HI.out.lt
  have hb := exact_lt zs 3 t (by decide)
  obtain ⟨N, hN⟩ : ∃ N, ((exactG zs).bl 3 t).1 = N := ⟨_, rfl⟩
  obtain ⟨x, hx⟩ : ∃ x, ((exactG zs).bl 3 t).2 = x := ⟨_, rfl⟩
  rw [hN] at hb
  have HQ := Lib.hid (show itemA (exactG zs) A1 Ed Bk 5 t = (makeT (nodeS 44 (pkG (exactG zs) l7NameL (timesG (wordG (exactG zs)) N x).2).1) ((timesG (wordG (exactG zs)) N x).1 ++ [(Bk (pkG (exactG zs) l7NameL (timesG (wordG (exactG zs)) N x).2).2).1]), (Bk (pkG (exactG zs) l7NameL (timesG (wordG (exactG zs)) N x).2).2).2) by
    show funcG (exactG zs) Bk t = _
    unfold funcG
    rw [← hx, ← hN]
    rfl)
  have HN := Lib.hid hN
  have HX := Lib.hid hx
  clear hN hx
  go_enter Try.func61, Try.ntmps61
  go_wp2_with fail
  refine (bl_ok 2 (by decide) HO.out HI.out).mono ?_
  rintro e wz ⟨rfl, Iz, Gz⟩
  rw [HU.out] at Iz
  go_wp2_with fail
  refine (bl_ok 8 (by decide) HK.out Iz).mono ?_
  rintro e w0 ⟨rfl, I0, Gy⟩
  rw [HT.out] at I0
  have G0 := Lib.hid (grown_trans Gz Gy)
  have hZ0 := G0.out.size
  clear Iz Gz Gy
  have L0 := Lib.hid (LS.start I0 hZ0 HP)
  have HG0 := Lib.hid (grown_below G0.out ((Below.refl w.heap.size w0).alloc hZ0 (.cells #[] 65)) rfl)
  go_wp2_with fail
  refine (bl_ok 3 (by decide) HN.out L0.out.cur).mono ?_
  rintro e w1 ⟨rfl, I1, G1⟩
  rw [HX.out] at I1
  have L1 := Lib.hid (L0.out.next I1 G1)
  have HG1 := Lib.hid (grown_trans HG0.out G1)
  clear I1 G1
  go_wp2
  go_loopw [4, 5] (fun v n wr => RelList B p len cap a zs w (wordG (exactG zs)) N x v n wr) (fun _ n _ => (intOf n).toNat)
  case atStart => exact ⟨0, w0.heap.size, 0, [], by omega, by simp, rfl, L1.out, HG1.out⟩
  case round =>
    obtain ⟨I, g, c, vs, hI, rfl, rfl, hls, hgr⟩ := hrel
    have hvl := hls.ln
    rw [times_len] at hvl
    subst hvl
    have HL := Lib.hid hls
    have HG := Lib.hid hgr
    clear hls hgr
    by_cases hlt : vs.length < N
    · have hi : (vs.length : Int) < (N : Int) := by omega
      have hi2 : 0 < (N : Int) - (vs.length : Int) := by omega
      go_wp2_with fail
      refine (word_ok HL.out.cur).mono ?_
      rintro e w2 ⟨⟨rfl, I2, G2⟩, Z2⟩
      have L2 := Lib.hid (HL.out.next I2 G2)
      obtain ⟨y, hy⟩ : ∃ y, (pkG (exactG zs) l2WordL (timesG (wordG (exactG zs)) vs.length x).2).1 = y := ⟨_, rfl⟩
      have HT2 := Lib.hid (show TOut B p a len cap zs (leaf 1 y) (pkG (exactG zs) l2WordL (timesG (wordG (exactG zs)) vs.length x).2).2 wr _ _ from TOut.leaf0 1 y I2 HL.out.cur.lt G2)
      obtain ⟨v2, he2, T2, I3, G3⟩ := HT2.out
      injection he2 with he2
      subst he2
      have L3 := Lib.hid (HL.out.next I3 G3)
      have HT3 := Lib.hid T2
      have HG3 := Lib.hid (grown_trans HG.out G3)
      obtain ⟨wl, hwl⟩ : ∃ wl, wl = w2.alloc (.cells #[.int .i64 1, .int .i64 0, .string y, .string ⟨#[]⟩, .slice none 0 0] 26) := ⟨_, rfl⟩
      rw [← hwl] at L3 HT3 HG3
      have HWL := Lib.hid hwl
      have HWS := Lib.hid (show wl.heap.size = w2.heap.size + 1 by rw [hwl]; simp)
      have HY := Lib.hid hy
      clear T2 I3 G3 I2 G2 HT2 hwl
      rw [hy]
      clear hy
      go_wp2_with (first | (rw [← HWL.out]; refine wpList_append_tree _ _ rfl _ _ rfl w.heap.size (.slice (some ⟨g, 0, none⟩) vs.length c) vs rfl L3.out.own (by show Value.slice (some ⟨w2.heap.size + 1, 0, none⟩) 1 1 = _; rw [HWS.out]) rfl (by omega) L3.out.lw ?_; intro g3 c3 w3 own3 gr3 or3; have L4 := Lib.hid (L3.out.push HT3.out HL.out.g_lt.2 own3 gr3 (or3.imp (fun e => by simpa [Value.ownBlock] using e) id)); have HG4 := Lib.hid (L3.out.grown HG3.out (Nat.le_refl _) gr3)))
      go_roundw
      case rel =>
        refine ⟨vs.length + 1, g3, c3, vs ++ [.slice (some ⟨w2.heap.size, 0, none⟩) 1 1], by omega, by go_num, rfl, ?_⟩
        rw [times_snoc]
        rw [show (wordG (exactG zs) (timesG (wordG (exactG zs)) vs.length x).2) = (leaf 1 y, (pkG (exactG zs) l2WordL (timesG (wordG (exactG zs)) vs.length x).2).2) by rw [← HY.out]; rfl]
        exact ⟨L4.out, HG4.out⟩
      case measure => simp [intOf]; omega
    · obtain rfl : vs.length = N := by omega
      have hi2 : ¬ 0 < (vs.length : Int) - (vs.length : Int) := by omega
      have hgd := HL.out.g_lt
      go_wp2_with fail
      refine (pick_ok 3 l7NameL HL.out.cur rfl (by decide) (by decide)).mono ?_
      rintro e w2 ⟨⟨he, I2, G2⟩, Z2⟩
      obtain ⟨y, hy⟩ : ∃ y, (pkG (exactG zs) l7NameL (timesG (wordG (exactG zs)) vs.length x).2).1 = y := ⟨_, rfl⟩
      obtain ⟨z, hz⟩ : ∃ z, (pkG (exactG zs) l7NameL (timesG (wordG (exactG zs)) vs.length x).2).2 = z := ⟨_, rfl⟩
      rw [hy] at he HQ
      rw [hz] at I2 HQ
      subst he
      have L2 := Lib.hid (HL.out.next I2 G2)
      have HG2 := Lib.hid (grown_trans HG.out G2)
      clear I2 G2 hy hz
      go_wp2_with fail
      refine (HA.out.b _ _ L2.out.cur).mono ?_
      rintro e w3 ⟨u3, rfl, T3, I3, G3⟩
      obtain ⟨a3, c3, rfl⟩ := T3.form
      have L3 := Lib.hid (L2.out.next I3 G3)
      have HT3 := Lib.hid T3
      have HG3 := Lib.hid (grown_trans HG2.out G3)
      have HGL := Lib.hid L2.out.g_lt
      clear T3 I3 G3
      go_wp2_with (refine wpList_append_tree _ _ rfl _ _ rfl w.heap.size (.slice (some ⟨g, 0, none⟩) vs.length c) vs rfl L3.out.own rfl rfl (by omega) L3.out.lw ?_; intro g4 c4 w4 own4 gr4 or4; have L4 := Lib.hid (L3.out.push HT3.out HGL.out.2 own4 gr4 (or4.imp (fun e => by simpa [Value.ownBlock] using e) id)); have HG4 := Lib.hid (L3.out.grown HG3.out (Nat.le_refl _) gr4))
      refine (good_partsN (n := nodeS 44 y) (by simp [times_len]) L4.out.parts (fun q hq => by
        rcases List.mem_append.1 hq with h | h
        · exact times_all (fun s => (word_small zs s).good (by decide)) _ _ q h
        · rw [List.mem_singleton] at h; rw [h]; exact HA.out.gb _) (by simp [times_len]; omega)).mono ?_
      rintro e w5 hmk
      have HM := Lib.hid (TOut.make L4.out.cur HP HG4.out (Below.refl _ _) hmk)
      clear hmk
      obtain ⟨vz, rfl, _⟩ := HM.out
      go_wp2
      go_ret
      rw [HQ.out]
      exact HM.out
set_option maxHeartbeats 1600000 in
theorem item6 {w : World} {s u t : St} {K2 : Nat} (hA : Itm B p len cap a zs (1 + (K2 : Int)) A1 Ed Bk) (H : In B w p a len cap zs s) (hO : ((exactG zs).bl 2 s).1 = K2) (hk2 : K2 < 2) (hu : ((exactG zs).bl 2 s).2 = u) (hK : ((exactG zs).bl 8 u).1 = 6) (ht : ((exactG zs).bl 8 u).2 = t) :
    Calls Try.prog 61 #[.pointer (some ⟨p, 0, none⟩)] w (TOut B p a len cap zs (itemA (exactG zs) A1 Ed Bk 6 t).1 (itemA (exactG zs) A1 Ed Bk 6 t).2 w) := by
  have HA := Lib.hid hA
  have HI := Lib.hid H
  have HO := Lib.hid hO
  have HU := Lib.hid hu
  have HK := Lib.hid hK
  have HT := Lib.hid ht
  clear hA H hO hu hK ht
  go_enter Try.func61, Try.ntmps61
  go_wp2_with fail
  refine (bl_ok 2 (by decide) HO.out HI.out).mono ?_
  rintro e wz ⟨rfl, Iz, Gz⟩
  rw [HU.out] at Iz
  go_wp2_with fail
  refine (bl_ok 8 (by decide) HK.out Iz).mono ?_
  rintro e w0 ⟨rfl, I0, Gy⟩
  rw [HT.out] at I0
  have G0 := Lib.hid (grown_trans Gz Gy)
  have hZ0 := G0.out.size
  clear Iz Gz Gy
  go_wp2_with fail
  refine (pick_ok 2 l7TopL I0 rfl (by decide) (by decide)).mono ?_
  rintro e w1 ⟨⟨rfl, I1, G1⟩, Z1⟩
  have GG1 := Lib.hid (grown_trans (G0.out) G1)
  have hZ1 := GG1.out.size
  clear G1
  have HM := Lib.hid (TOut.leaf0 34 (pkG (exactG zs) l7TopL t).1 I1 HI.out.lt (GG1.out))
  go_wp2
  go_ret
  exact HM.out
set_option maxHeartbeats 1600000 in
theorem item7 {w : World} {s u t : St} {K2 : Nat} (hA : Itm B p len cap a zs (1 + (K2 : Int)) A1 Ed Bk) (H : In B w p a len cap zs s) (hO : ((exactG zs).bl 2 s).1 = K2) (hk2 : K2 < 2) (hu : ((exactG zs).bl 2 s).2 = u) (hK : ((exactG zs).bl 8 u).1 = 7) (ht : ((exactG zs).bl 8 u).2 = t) :
    Calls Try.prog 61 #[.pointer (some ⟨p, 0, none⟩)] w (TOut B p a len cap zs (itemA (exactG zs) A1 Ed Bk 7 t).1 (itemA (exactG zs) A1 Ed Bk 7 t).2 w) := by
  have HA := Lib.hid hA
  have HI := Lib.hid H
  have HO := Lib.hid hO
  have HU := Lib.hid hu
  have HK := Lib.hid hK
  have HT := Lib.hid ht
  clear hA H hO hu hK ht
  go_enter Try.func61, Try.ntmps61
  go_wp2_with fail
  refine (bl_ok 2 (by decide) HO.out HI.out).mono ?_
  rintro e wz ⟨rfl, Iz, Gz⟩
  rw [HU.out] at Iz
  go_wp2_with fail
  refine (bl_ok 8 (by decide) HK.out Iz).mono ?_
  rintro e w0 ⟨rfl, I0, Gy⟩
  rw [HT.out] at I0
  have G0 := Lib.hid (grown_trans Gz Gy)
  have hZ0 := G0.out.size
  clear Iz Gz Gy
  go_wp2_with fail
  refine (HA.out.e _ _ I0).mono ?_
  rintro e w1 ⟨v1, rfl, T1, I1, G1⟩
  obtain ⟨a1, c1, rfl⟩ := T1.form
  have GG1 := Lib.hid (grown_trans (G0.out) G1)
  have hZ1 := GG1.out.size
  clear G1
  have X1 := Lib.hid (TR.down T1 (S' := w.heap.size) (by omega) HI.out.lt)
  clear T1
  go_wp2_with fail
  refine (HA.out.b _ _ I1).mono ?_
  rintro e w2 ⟨v2, rfl, T2, I2, G2⟩
  obtain ⟨a2, c2, rfl⟩ := T2.form
  have X1' := Lib.hid (X1.out.grown G2)
  clear X1
  have X1 := X1'
  clear X1'
  have GG2 := Lib.hid (grown_trans (GG1.out) G2)
  have hZ2 := GG2.out.size
  clear G2
  have X2 := Lib.hid (TR.down T2 (S' := w.heap.size) (by omega) HI.out.lt)
  clear T2
  go_wp2_with fail
  refine (good_parts (n := nodeO 42 3) (parts_of [.slice a1 _ c1, .slice a2 _ c2] [(Ed t).1, (Bk (Ed t).2).1] rfl (fun i h _ => by
      have e0 : i = 0 ∨ i = 1 := (by simp at h; omega)
      rcases e0 with rfl | rfl
      · exact X1.out
      · exact X2.out
      )) (fun q hq => by
      simp only [List.mem_cons, List.not_mem_nil, or_false] at hq
      rcases hq with rfl | rfl
      · exact HA.out.ge _
      · exact HA.out.gb _
      ) (by simp)).mono ?_
  rintro e w3 hmk
  have HM := Lib.hid (TOut.make I2 HI.out.lt (GG2.out) ((Below.refl _ _).alloc (Nat.le_refl _) _) hmk)
  clear hmk
  obtain ⟨vz, rfl, _⟩ := HM.out
  go_wp2
  go_ret
  exact HM.out
end
end Go.Proofs.Ytldkhdoboieibaa.draw
