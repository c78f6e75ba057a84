/-
  spec.l7Block and spec.l7Stmt by the plain drawing functions.
-/
import Derived.Test.YtldkhdoboieibaaSimpleC
namespace Go.Proofs.Ytldkhdoboieibaa.draw
open Go.ChangeShapes Go.WideShapes Go.ChangeAt Go.RowKit
open nd
set_option linter.unusedVariables false

section
variable {B p len cap : Nat} {a : Option Addr} {zs : List Int}
set_option maxHeartbeats 1600000 in
theorem block_ok {D : Int} {S : St → List Nd × St} {k : Nat} (hD : -100 ≤ D ∧ D ≤ 100) (h1 : ExprC B p len cap a zs 47 D S) (hs : SmE k S) (hk : k ≤ 20000) : ExprC B p len cap a zs 59 D (blockG (exactG zs) S) := by
  intro w s H
  have HI := Lib.hid H
  have H1 := Lib.hid h1
  have HS := Lib.hid hs
  have hb := exact_lt zs 3 s (by decide)
  obtain ⟨N, hN⟩ : ∃ N, ((exactG zs).bl 3 s).1 = N := ⟨_, rfl⟩
  obtain ⟨t, ht⟩ : ∃ t, ((exactG zs).bl 3 s).2 = t := ⟨_, rfl⟩
  rw [hN] at hb
  have HN := Lib.hid hN
  have HT := Lib.hid ht
  have HQ := Lib.hid (show blockG (exactG zs) S s = (makeT (nodeO 33 0) (timesG S N t).1, (timesG S N t).2) by unfold blockG; rw [hN, ht]; rfl)
  have HP := HI.out.lt
  clear H h1 hs hN ht
  go_enter Try.func59, Try.ntmps59
  have L0 := Lib.hid (LS.start HI.out (Nat.le_refl _) HP)
  have HG0 := Lib.hid (grown_below (p := p) grown_refl ((Below.refl w.heap.size w).alloc (Nat.le_refl _) (.cells #[] 65)) rfl)
  go_wp2_with fail
  refine (bl_ok 3 (by decide) HN.out L0.out.cur).mono ?_
  rintro e w1 ⟨rfl, I1, G1⟩
  rw [HT.out] at I1
  have L1 := Lib.hid (L0.out.next I1 G1)
  have HG1 := Lib.hid (grown_trans HG0.out G1)
  clear I1 G1
  go_wp2
  go_loopw [5, 6] (fun v n wr => RelList B p len cap a zs w S N t v n wr) (fun _ n _ => (intOf n).toNat)
  case atStart => exact ⟨0, w.heap.size, 0, [], by omega, by simp, rfl, L1.out, HG1.out⟩
  case round =>
    obtain ⟨I, g, c, vs, hI, rfl, rfl, hls, hgr⟩ := hrel
    have hvl := hls.ln
    rw [times_len] at hvl
    subst hvl
    have HL := Lib.hid hls
    have HG := Lib.hid hgr
    clear hls hgr
    by_cases hlt : vs.length < N
    · have hi : (vs.length : Int) < (N : Int) := by omega
      have hi2 : 0 < (N : Int) - (vs.length : Int) := by omega
      go_wp2_with fail
      refine (H1.out _ _ HL.out.cur).mono ?_
      rintro e w2 ⟨u, rfl, T2, I2, G2⟩
      obtain ⟨au, cu, rfl⟩ := T2.form
      have L2 := Lib.hid (HL.out.next I2 G2)
      have HT2 := Lib.hid T2
      have HG2 := Lib.hid (grown_trans HG.out G2)
      clear T2 I2 G2
      go_wp2_with (refine wpList_append_tree _ _ rfl _ _ rfl w.heap.size (.slice (some ⟨g, 0, none⟩) vs.length c) vs rfl L2.out.own rfl rfl (by omega) L2.out.lw ?_; intro g3 c3 w3 own3 gr3 or3; have L3 := Lib.hid (L2.out.push HT2.out HL.out.g_lt.2 own3 gr3 (or3.imp (fun e => by simpa [Value.ownBlock] using e) id)); have HG3 := Lib.hid (L2.out.grown HG2.out (Nat.le_refl _) gr3))
      go_roundw
      case rel =>
        refine ⟨vs.length + 1, g3, c3, vs ++ [.slice au (S (timesG S vs.length t).2).1.length cu], by omega, by go_num, rfl, ?_⟩
        rw [times_snoc]
        exact ⟨L3.out, HG3.out⟩
      case measure => simp [intOf]; omega
    · obtain rfl : vs.length = N := by omega
      have hi2 : ¬ 0 < (vs.length : Int) - (vs.length : Int) := by omega
      go_wp2_with fail
      refine (good_partsN (n := nodeO 33 0) (by rw [times_len]) HL.out.parts (times_all (fun s => (HS.out s).good hk) _ _) (by rw [times_len]; omega)).mono ?_
      rintro e w4 hmk
      have HM := Lib.hid (TOut.make HL.out.cur HP HG.out (Below.refl _ _) hmk)
      clear hmk
      obtain ⟨vz, rfl, _⟩ := HM.out
      go_wp2
      go_ret
      rw [HQ.out]
      exact HM.out
theorem block_small {k : Nat} {S : St → List Nd × St} (h : SmE k S) : SmE (1 + 2 * k) (blockG (exactG zs) S) := by
  intro s
  have hb := exact_lt zs 3 s (by decide)
  obtain ⟨l1, l2⟩ := times_small h ((exactG zs).bl 3 s).1 ((exactG zs).bl 3 s).2
  exact sm_list (m := 2) _ ⟨l1, by omega⟩ (by decide)

/-- What a statement's arms may use. -/
structure Stm (B p len cap : Nat) (a : Option Addr) (zs : List Int) (D : Int) (A1 A2 Bk : St → List Nd × St) : Prop where
  d0 : 1 ≤ D
  d1 : D ≤ 100
  a1 : ExprC B p len cap a zs 46 1 A1
  a2 : ExprC B p len cap a zs 46 2 A2
  b : ExprC B p len cap a zs 59 (D - 1) Bk
  s1 : SmE 21 A1
  s2 : SmE 21 A2
  sb : SmE 5000 Bk
variable {D : Int} {A1 A2 Bk : St → List Nd × St}
theorem Stm.g1 (h : Stm B p len cap a zs D A1 A2 Bk) (s : St) : Good (A1 s).1 := (h.s1 s).good (by decide)
theorem Stm.gb (h : Stm B p len cap a zs D A1 A2 Bk) (s : St) : Good (Bk s).1 := (h.sb s).good (by decide)
theorem Stm.m1 (h : Stm B p len cap a zs D A1 A2 Bk) (s : St) : Good (maybeG (exactG zs) A1 s).1 := (maybe_small zs h.s1 s).good (by decide)
theorem Stm.m2 (h : Stm B p len cap a zs D A1 A2 Bk) (s : St) : Good (maybeG (exactG zs) A2 s).1 := (maybe_small zs h.s2 s).good (by decide)
def compA {σ T : Type} (g : Gen σ T) (A1 A2 B : σ → T × σ) (b : Nat) (t : σ) : T × σ :=
  match b with
  | 0 => let e := A1 t; let k := B e.2; (g.nd (nodeO 28 0) [e.1, k.1], k.2)
  | 1 => let e := A1 t; let k := B e.2; let j := B k.2; (g.nd (nodeO 28 0) [e.1, k.1, j.1], j.2)
  | 2 => let e := A1 t; let k := B e.2; (g.nd (nodeO 29 0) [e.1, k.1], k.2)
  | 3 => let k := B t; let e := A1 k.2; (g.nd (nodeO 30 0) [k.1, e.1], e.2)
  | 4 => let x := maybeG g A2 t; let y := maybeG g A1 x.2; let z := maybeG g A1 y.2; let k := B z.2; (g.nd (nodeO 31 0) [x.1, y.1, z.1, k.1], k.2)
  | _ => if (g.bl 2 t).1 = 0 then B (g.bl 2 t).2 else (let x := pkG g l2WordL (g.bl 2 t).2; let y := pkG g l2WordL x.2; let k := B y.2; (g.nd ⟨32, 0, x.1, y.1, []⟩ [k.1], k.2))
theorem comp_arm {σ T : Type} (g : Gen σ T) (A1 A2 B : σ → T × σ) (s : σ) : compG g A1 A2 B s = compA g A1 A2 B (g.bl 6 s).1 (g.bl 6 s).2 := rfl
set_option maxHeartbeats 1600000 in
theorem comp0 {w : World} {s u t : St} (hA : Stm B p len cap a zs D A1 A2 Bk) (H : In B w p a len cap zs s) (hO : ((exactG zs).bl 3 s).1 = 0) (hu : ((exactG zs).bl 3 s).2 = u) (hK : ((exactG zs).bl 6 u).1 = 0) (ht : ((exactG zs).bl 6 u).2 = t) :
    Calls Try.prog 47 #[.pointer (some ⟨p, 0, none⟩), .int .i64 D] w (TOut B p a len cap zs (compA (exactG zs) A1 A2 Bk 0 t).1 (compA (exactG zs) A1 A2 Bk 0 t).2 w) := by
  have HA := Lib.hid hA
  have HI := Lib.hid H
  have HO := Lib.hid hO
  have HU := Lib.hid hu
  have HK := Lib.hid hK
  have HT := Lib.hid ht
  have d0 := hA.d0
  have d1 := hA.d1
  clear hA H hO hu hK ht
  go_enter Try.func47, Try.ntmps47
  go_wp2_with fail
  refine (once_yes 3 (by decide) HO.out HI.out).mono ?_
  rintro e wz ⟨rfl, Iz, Gz⟩
  rw [HU.out] at Iz
  go_wp2_with fail
  refine (bl_ok 6 (by decide) HK.out Iz).mono ?_
  rintro e w0 ⟨rfl, I0, Gy⟩
  rw [HT.out] at I0
  have G0 := Lib.hid (grown_trans Gz Gy)
  have hZ0 := G0.out.size
  clear Iz Gz Gy
  go_wp2_with fail
  refine (HA.out.a1 _ _ I0).mono ?_
  rintro e w1 ⟨v1, rfl, T1, I1, G1⟩
  obtain ⟨a1, c1, rfl⟩ := T1.form
  have GG1 := Lib.hid (grown_trans (G0.out) G1)
  have hZ1 := GG1.out.size
  clear G1
  have X1 := Lib.hid (TR.down T1 (S' := w.heap.size) (by omega) HI.out.lt)
  clear T1
  go_wp2_with fail
  refine (HA.out.b _ _ I1).mono ?_
  rintro e w2 ⟨v2, rfl, T2, I2, G2⟩
  obtain ⟨a2, c2, rfl⟩ := T2.form
  have X1' := Lib.hid (X1.out.grown G2)
  clear X1
  have X1 := X1'
  clear X1'
  have GG2 := Lib.hid (grown_trans (GG1.out) G2)
  have hZ2 := GG2.out.size
  clear G2
  have X2 := Lib.hid (TR.down T2 (S' := w.heap.size) (by omega) HI.out.lt)
  clear T2
  go_wp2_with fail
  refine (good_parts (n := nodeO 28 0) (parts_of [.slice a1 _ c1, .slice a2 _ c2] [(A1 t).1, (Bk (A1 t).2).1] rfl (fun i h _ => by
      have e0 : i = 0 ∨ i = 1 := (by simp at h; omega)
      rcases e0 with rfl | rfl
      · exact X1.out
      · exact X2.out
      )) (fun q hq => by
      simp only [List.mem_cons, List.not_mem_nil, or_false] at hq
      rcases hq with rfl | rfl
      · exact HA.out.g1 _
      · exact HA.out.gb _
      ) (by simp)).mono ?_
  rintro e w3 hmk
  have HM := Lib.hid (TOut.make I2 HI.out.lt (GG2.out) ((Below.refl _ _).alloc (Nat.le_refl _) _) hmk)
  clear hmk
  obtain ⟨vz, rfl, _⟩ := HM.out
  go_wp2
  go_ret
  exact HM.out
set_option maxHeartbeats 1600000 in
theorem comp1 {w : World} {s u t : St} (hA : Stm B p len cap a zs D A1 A2 Bk) (H : In B w p a len cap zs s) (hO : ((exactG zs).bl 3 s).1 = 0) (hu : ((exactG zs).bl 3 s).2 = u) (hK : ((exactG zs).bl 6 u).1 = 1) (ht : ((exactG zs).bl 6 u).2 = t) :
    Calls Try.prog 47 #[.pointer (some ⟨p, 0, none⟩), .int .i64 D] w (TOut B p a len cap zs (compA (exactG zs) A1 A2 Bk 1 t).1 (compA (exactG zs) A1 A2 Bk 1 t).2 w) := by
  have HA := Lib.hid hA
  have HI := Lib.hid H
  have HO := Lib.hid hO
  have HU := Lib.hid hu
  have HK := Lib.hid hK
  have HT := Lib.hid ht
  have d0 := hA.d0
  have d1 := hA.d1
  clear hA H hO hu hK ht
  go_enter Try.func47, Try.ntmps47
  go_wp2_with fail
  refine (once_yes 3 (by decide) HO.out HI.out).mono ?_
  rintro e wz ⟨rfl, Iz, Gz⟩
  rw [HU.out] at Iz
  go_wp2_with fail
  refine (bl_ok 6 (by decide) HK.out Iz).mono ?_
  rintro e w0 ⟨rfl, I0, Gy⟩
  rw [HT.out] at I0
  have G0 := Lib.hid (grown_trans Gz Gy)
  have hZ0 := G0.out.size
  clear Iz Gz Gy
  go_wp2_with fail
  refine (HA.out.a1 _ _ I0).mono ?_
  rintro e w1 ⟨v1, rfl, T1, I1, G1⟩
  obtain ⟨a1, c1, rfl⟩ := T1.form
  have GG1 := Lib.hid (grown_trans (G0.out) G1)
  have hZ1 := GG1.out.size
  clear G1
  have X1 := Lib.hid (TR.down T1 (S' := w.heap.size) (by omega) HI.out.lt)
  clear T1
  go_wp2_with fail
  refine (HA.out.b _ _ I1).mono ?_
  rintro e w2 ⟨v2, rfl, T2, I2, G2⟩
  obtain ⟨a2, c2, rfl⟩ := T2.form
  have X1' := Lib.hid (X1.out.grown G2)
  clear X1
  have X1 := X1'
  clear X1'
  have GG2 := Lib.hid (grown_trans (GG1.out) G2)
  have hZ2 := GG2.out.size
  clear G2
  have X2 := Lib.hid (TR.down T2 (S' := w.heap.size) (by omega) HI.out.lt)
  clear T2
  go_wp2_with fail
  refine (HA.out.b _ _ I2).mono ?_
  rintro e w3 ⟨v3, rfl, T3, I3, G3⟩
  obtain ⟨a3, c3, rfl⟩ := T3.form
  have X1' := Lib.hid (X1.out.grown G3)
  clear X1
  have X1 := X1'
  clear X1'
  have X2' := Lib.hid (X2.out.grown G3)
  clear X2
  have X2 := X2'
  clear X2'
  have GG3 := Lib.hid (grown_trans (GG2.out) G3)
  have hZ3 := GG3.out.size
  clear G3
  have X3 := Lib.hid (TR.down T3 (S' := w.heap.size) (by omega) HI.out.lt)
  clear T3
  go_wp2_with fail
  refine (good_parts (n := nodeO 28 0) (parts_of [.slice a1 _ c1, .slice a2 _ c2, .slice a3 _ c3] [(A1 t).1, (Bk (A1 t).2).1, (Bk (Bk (A1 t).2).2).1] rfl (fun i h _ => by
      have e0 : i = 0 ∨ i = 1 ∨ i = 2 := (by simp at h; omega)
      rcases e0 with rfl | rfl | rfl
      · exact X1.out
      · exact X2.out
      · exact X3.out
      )) (fun q hq => by
      simp only [List.mem_cons, List.not_mem_nil, or_false] at hq
      rcases hq with rfl | rfl | rfl
      · exact HA.out.g1 _
      · exact HA.out.gb _
      · exact HA.out.gb _
      ) (by simp)).mono ?_
  rintro e w4 hmk
  have HM := Lib.hid (TOut.make I3 HI.out.lt (GG3.out) ((Below.refl _ _).alloc (Nat.le_refl _) _) hmk)
  clear hmk
  obtain ⟨vz, rfl, _⟩ := HM.out
  go_wp2
  go_ret
  exact HM.out
set_option maxHeartbeats 1600000 in
theorem comp2 {w : World} {s u t : St} (hA : Stm B p len cap a zs D A1 A2 Bk) (H : In B w p a len cap zs s) (hO : ((exactG zs).bl 3 s).1 = 0) (hu : ((exactG zs).bl 3 s).2 = u) (hK : ((exactG zs).bl 6 u).1 = 2) (ht : ((exactG zs).bl 6 u).2 = t) :
    Calls Try.prog 47 #[.pointer (some ⟨p, 0, none⟩), .int .i64 D] w (TOut B p a len cap zs (compA (exactG zs) A1 A2 Bk 2 t).1 (compA (exactG zs) A1 A2 Bk 2 t).2 w) := by
  have HA := Lib.hid hA
  have HI := Lib.hid H
  have HO := Lib.hid hO
  have HU := Lib.hid hu
  have HK := Lib.hid hK
  have HT := Lib.hid ht
  have d0 := hA.d0
  have d1 := hA.d1
  clear hA H hO hu hK ht
  go_enter Try.func47, Try.ntmps47
  go_wp2_with fail
  refine (once_yes 3 (by decide) HO.out HI.out).mono ?_
  rintro e wz ⟨rfl, Iz, Gz⟩
  rw [HU.out] at Iz
  go_wp2_with fail
  refine (bl_ok 6 (by decide) HK.out Iz).mono ?_
  rintro e w0 ⟨rfl, I0, Gy⟩
  rw [HT.out] at I0
  have G0 := Lib.hid (grown_trans Gz Gy)
  have hZ0 := G0.out.size
  clear Iz Gz Gy
  go_wp2_with fail
  refine (HA.out.a1 _ _ I0).mono ?_
  rintro e w1 ⟨v1, rfl, T1, I1, G1⟩
  obtain ⟨a1, c1, rfl⟩ := T1.form
  have GG1 := Lib.hid (grown_trans (G0.out) G1)
  have hZ1 := GG1.out.size
  clear G1
  have X1 := Lib.hid (TR.down T1 (S' := w.heap.size) (by omega) HI.out.lt)
  clear T1
  go_wp2_with fail
  refine (HA.out.b _ _ I1).mono ?_
  rintro e w2 ⟨v2, rfl, T2, I2, G2⟩
  obtain ⟨a2, c2, rfl⟩ := T2.form
  have X1' := Lib.hid (X1.out.grown G2)
  clear X1
  have X1 := X1'
  clear X1'
  have GG2 := Lib.hid (grown_trans (GG1.out) G2)
  have hZ2 := GG2.out.size
  clear G2
  have X2 := Lib.hid (TR.down T2 (S' := w.heap.size) (by omega) HI.out.lt)
  clear T2
  go_wp2_with fail
  refine (good_parts (n := nodeO 29 0) (parts_of [.slice a1 _ c1, .slice a2 _ c2] [(A1 t).1, (Bk (A1 t).2).1] rfl (fun i h _ => by
      have e0 : i = 0 ∨ i = 1 := (by simp at h; omega)
      rcases e0 with rfl | rfl
      · exact X1.out
      · exact X2.out
      )) (fun q hq => by
      simp only [List.mem_cons, List.not_mem_nil, or_false] at hq
      rcases hq with rfl | rfl
      · exact HA.out.g1 _
      · exact HA.out.gb _
      ) (by simp)).mono ?_
  rintro e w3 hmk
  have HM := Lib.hid (TOut.make I2 HI.out.lt (GG2.out) ((Below.refl _ _).alloc (Nat.le_refl _) _) hmk)
  clear hmk
  obtain ⟨vz, rfl, _⟩ := HM.out
  go_wp2
  go_ret
  exact HM.out
set_option maxHeartbeats 1600000 in
theorem comp3 {w : World} {s u t : St} (hA : Stm B p len cap a zs D A1 A2 Bk) (H : In B w p a len cap zs s) (hO : ((exactG zs).bl 3 s).1 = 0) (hu : ((exactG zs).bl 3 s).2 = u) (hK : ((exactG zs).bl 6 u).1 = 3) (ht : ((exactG zs).bl 6 u).2 = t) :
    Calls Try.prog 47 #[.pointer (some ⟨p, 0, none⟩), .int .i64 D] w (TOut B p a len cap zs (compA (exactG zs) A1 A2 Bk 3 t).1 (compA (exactG zs) A1 A2 Bk 3 t).2 w) := by
  have HA := Lib.hid hA
  have HI := Lib.hid H
  have HO := Lib.hid hO
  have HU := Lib.hid hu
  have HK := Lib.hid hK
  have HT := Lib.hid ht
  have d0 := hA.d0
  have d1 := hA.d1
  clear hA H hO hu hK ht
  go_enter Try.func47, Try.ntmps47
  go_wp2_with fail
  refine (once_yes 3 (by decide) HO.out HI.out).mono ?_
  rintro e wz ⟨rfl, Iz, Gz⟩
  rw [HU.out] at Iz
  go_wp2_with fail
  refine (bl_ok 6 (by decide) HK.out Iz).mono ?_
  rintro e w0 ⟨rfl, I0, Gy⟩
  rw [HT.out] at I0
  have G0 := Lib.hid (grown_trans Gz Gy)
  have hZ0 := G0.out.size
  clear Iz Gz Gy
  go_wp2_with fail
  refine (HA.out.b _ _ I0).mono ?_
  rintro e w1 ⟨v1, rfl, T1, I1, G1⟩
  obtain ⟨a1, c1, rfl⟩ := T1.form
  have GG1 := Lib.hid (grown_trans (G0.out) G1)
  have hZ1 := GG1.out.size
  clear G1
  have X1 := Lib.hid (TR.down T1 (S' := w.heap.size) (by omega) HI.out.lt)
  clear T1
  go_wp2_with fail
  refine (HA.out.a1 _ _ I1).mono ?_
  rintro e w2 ⟨v2, rfl, T2, I2, G2⟩
  obtain ⟨a2, c2, rfl⟩ := T2.form
  have X1' := Lib.hid (X1.out.grown G2)
  clear X1
  have X1 := X1'
  clear X1'
  have GG2 := Lib.hid (grown_trans (GG1.out) G2)
  have hZ2 := GG2.out.size
  clear G2
  have X2 := Lib.hid (TR.down T2 (S' := w.heap.size) (by omega) HI.out.lt)
  clear T2
  go_wp2_with fail
  refine (good_parts (n := nodeO 30 0) (parts_of [.slice a1 _ c1, .slice a2 _ c2] [(Bk t).1, (A1 (Bk t).2).1] rfl (fun i h _ => by
      have e0 : i = 0 ∨ i = 1 := (by simp at h; omega)
      rcases e0 with rfl | rfl
      · exact X1.out
      · exact X2.out
      )) (fun q hq => by
      simp only [List.mem_cons, List.not_mem_nil, or_false] at hq
      rcases hq with rfl | rfl
      · exact HA.out.gb _
      · exact HA.out.g1 _
      ) (by simp)).mono ?_
  rintro e w3 hmk
  have HM := Lib.hid (TOut.make I2 HI.out.lt (GG2.out) ((Below.refl _ _).alloc (Nat.le_refl _) _) hmk)
  clear hmk
  obtain ⟨vz, rfl, _⟩ := HM.out
  go_wp2
  go_ret
  exact HM.out
set_option maxHeartbeats 1600000 in
theorem comp4 {w : World} {s u t : St} (hA : Stm B p len cap a zs D A1 A2 Bk) (H : In B w p a len cap zs s) (hO : ((exactG zs).bl 3 s).1 = 0) (hu : ((exactG zs).bl 3 s).2 = u) (hK : ((exactG zs).bl 6 u).1 = 4) (ht : ((exactG zs).bl 6 u).2 = t) :
    Calls Try.prog 47 #[.pointer (some ⟨p, 0, none⟩), .int .i64 D] w (TOut B p a len cap zs (compA (exactG zs) A1 A2 Bk 4 t).1 (compA (exactG zs) A1 A2 Bk 4 t).2 w) := by
  have HA := Lib.hid hA
  have HI := Lib.hid H
  have HO := Lib.hid hO
  have HU := Lib.hid hu
  have HK := Lib.hid hK
  have HT := Lib.hid ht
  have d0 := hA.d0
  have d1 := hA.d1
  clear hA H hO hu hK ht
  go_enter Try.func47, Try.ntmps47
  go_wp2_with fail
  refine (once_yes 3 (by decide) HO.out HI.out).mono ?_
  rintro e wz ⟨rfl, Iz, Gz⟩
  rw [HU.out] at Iz
  go_wp2_with fail
  refine (bl_ok 6 (by decide) HK.out Iz).mono ?_
  rintro e w0 ⟨rfl, I0, Gy⟩
  rw [HT.out] at I0
  have G0 := Lib.hid (grown_trans Gz Gy)
  have hZ0 := G0.out.size
  clear Iz Gz Gy
  go_wp2_with fail
  refine (maybe_ok (by decide) HA.out.a2 _ _ I0).mono ?_
  rintro e w1 ⟨v1, rfl, T1, I1, G1⟩
  obtain ⟨a1, c1, rfl⟩ := T1.form
  have GG1 := Lib.hid (grown_trans (G0.out) G1)
  have hZ1 := GG1.out.size
  clear G1
  have X1 := Lib.hid (TR.down T1 (S' := w.heap.size) (by omega) HI.out.lt)
  clear T1
  go_wp2_with fail
  refine (maybe_ok (by decide) HA.out.a1 _ _ I1).mono ?_
  rintro e w2 ⟨v2, rfl, T2, I2, G2⟩
  obtain ⟨a2, c2, rfl⟩ := T2.form
  have X1' := Lib.hid (X1.out.grown G2)
  clear X1
  have X1 := X1'
  clear X1'
  have GG2 := Lib.hid (grown_trans (GG1.out) G2)
  have hZ2 := GG2.out.size
  clear G2
  have X2 := Lib.hid (TR.down T2 (S' := w.heap.size) (by omega) HI.out.lt)
  clear T2
  go_wp2_with fail
  refine (maybe_ok (by decide) HA.out.a1 _ _ I2).mono ?_
  rintro e w3 ⟨v3, rfl, T3, I3, G3⟩
  obtain ⟨a3, c3, rfl⟩ := T3.form
  have X1' := Lib.hid (X1.out.grown G3)
  clear X1
  have X1 := X1'
  clear X1'
  have X2' := Lib.hid (X2.out.grown G3)
  clear X2
  have X2 := X2'
  clear X2'
  have GG3 := Lib.hid (grown_trans (GG2.out) G3)
  have hZ3 := GG3.out.size
  clear G3
  have X3 := Lib.hid (TR.down T3 (S' := w.heap.size) (by omega) HI.out.lt)
  clear T3
  go_wp2_with fail
  refine (HA.out.b _ _ I3).mono ?_
  rintro e w4 ⟨v4, rfl, T4, I4, G4⟩
  obtain ⟨a4, c4, rfl⟩ := T4.form
  have X1' := Lib.hid (X1.out.grown G4)
  clear X1
  have X1 := X1'
  clear X1'
  have X2' := Lib.hid (X2.out.grown G4)
  clear X2
  have X2 := X2'
  clear X2'
  have X3' := Lib.hid (X3.out.grown G4)
  clear X3
  have X3 := X3'
  clear X3'
  have GG4 := Lib.hid (grown_trans (GG3.out) G4)
  have hZ4 := GG4.out.size
  clear G4
  have X4 := Lib.hid (TR.down T4 (S' := w.heap.size) (by omega) HI.out.lt)
  clear T4
  go_wp2_with fail
  refine (good_parts (n := nodeO 31 0) (parts_of [.slice a1 _ c1, .slice a2 _ c2, .slice a3 _ c3, .slice a4 _ c4] [(maybeG (exactG zs) A2 t).1, (maybeG (exactG zs) A1 (maybeG (exactG zs) A2 t).2).1, (maybeG (exactG zs) A1 (maybeG (exactG zs) A1 (maybeG (exactG zs) A2 t).2).2).1, (Bk (maybeG (exactG zs) A1 (maybeG (exactG zs) A1 (maybeG (exactG zs) A2 t).2).2).2).1] rfl (fun i h _ => by
      have e0 : i = 0 ∨ i = 1 ∨ i = 2 ∨ i = 3 := (by simp at h; omega)
      rcases e0 with rfl | rfl | rfl | rfl
      · exact X1.out
      · exact X2.out
      · exact X3.out
      · exact X4.out
      )) (fun q hq => by
      simp only [List.mem_cons, List.not_mem_nil, or_false] at hq
      rcases hq with rfl | rfl | rfl | rfl
      · exact HA.out.m2 _
      · exact HA.out.m1 _
      · exact HA.out.m1 _
      · exact HA.out.gb _
      ) (by simp)).mono ?_
  rintro e w5 hmk
  have HM := Lib.hid (TOut.make I4 HI.out.lt (GG4.out) ((Below.refl _ _).alloc (Nat.le_refl _) _) hmk)
  clear hmk
  obtain ⟨vz, rfl, _⟩ := HM.out
  go_wp2
  go_ret
  exact HM.out
set_option maxHeartbeats 1600000 in
theorem comp5 {w : World} {s u t : St} (hA : Stm B p len cap a zs D A1 A2 Bk) (H : In B w p a len cap zs s) (hO : ((exactG zs).bl 3 s).1 = 0) (hu : ((exactG zs).bl 3 s).2 = u) (hK : ((exactG zs).bl 6 u).1 = 5) (ht : ((exactG zs).bl 6 u).2 = t) :
    Calls Try.prog 47 #[.pointer (some ⟨p, 0, none⟩), .int .i64 D] w (TOut B p a len cap zs (compA (exactG zs) A1 A2 Bk 5 t).1 (compA (exactG zs) A1 A2 Bk 5 t).2 w) := by
  have HA := Lib.hid hA
  have HI := Lib.hid H
  have HO := Lib.hid hO
  have HU := Lib.hid hu
  have HK := Lib.hid hK
  have HT := Lib.hid ht
  have d0 := hA.d0
  have d1 := hA.d1
  clear hA H hO hu hK ht
  by_cases hc : ((exactG zs).bl 2 t).1 = 0
  · have HQ := Lib.hid (show compA (exactG zs) A1 A2 Bk 5 t = Bk ((exactG zs).bl 2 t).2 from if_pos hc)
    go_enter Try.func47, Try.ntmps47
    go_wp2_with fail
    refine (once_yes 3 (by decide) HO.out HI.out).mono ?_
    rintro e wz ⟨rfl, Iz, Gz⟩
    rw [HU.out] at Iz
    go_wp2_with fail
    refine (bl_ok 6 (by decide) HK.out Iz).mono ?_
    rintro e w0 ⟨rfl, I0, Gy⟩
    rw [HT.out] at I0
    have G0 := Lib.hid (grown_trans Gz Gy)
    have hZ0 := G0.out.size
    clear Iz Gz Gy
    go_wp2_with fail
    refine (once_yes 2 (by decide) hc I0).mono ?_
    rintro e w1 ⟨rfl, I1, G1⟩
    have GG1 := Lib.hid (grown_trans (G0.out) G1)
    have hZ1 := GG1.out.size
    clear G1
    go_wp2_with fail
    refine (HA.out.b _ _ I1).mono ?_
    rintro e w2 ho
    have HM := Lib.hid (TOut.back (GG1.out) HI.out.lt ho)
    clear ho
    obtain ⟨vz, rfl, _⟩ := HM.out
    go_wp2
    go_ret
    rw [HQ.out]
    exact HM.out
  · have HQ := Lib.hid (show compA (exactG zs) A1 A2 Bk 5 t = (makeT ⟨32, 0, (pkG (exactG zs) l2WordL ((exactG zs).bl 2 t).2).1, (pkG (exactG zs) l2WordL (pkG (exactG zs) l2WordL ((exactG zs).bl 2 t).2).2).1, []⟩ [(Bk (pkG (exactG zs) l2WordL (pkG (exactG zs) l2WordL ((exactG zs).bl 2 t).2).2).2).1], (Bk (pkG (exactG zs) l2WordL (pkG (exactG zs) l2WordL ((exactG zs).bl 2 t).2).2).2).2) from if_neg hc)
    go_enter Try.func47, Try.ntmps47
    go_wp2_with fail
    refine (once_yes 3 (by decide) HO.out HI.out).mono ?_
    rintro e wz ⟨rfl, Iz, Gz⟩
    rw [HU.out] at Iz
    go_wp2_with fail
    refine (bl_ok 6 (by decide) HK.out Iz).mono ?_
    rintro e w0 ⟨rfl, I0, Gy⟩
    rw [HT.out] at I0
    have G0 := Lib.hid (grown_trans Gz Gy)
    have hZ0 := G0.out.size
    clear Iz Gz Gy
    go_wp2_with fail
    refine (once_no 2 (by decide) hc I0).mono ?_
    rintro e w1 ⟨rfl, I1, G1⟩
    have GG1 := Lib.hid (grown_trans (G0.out) G1)
    have hZ1 := GG1.out.size
    clear G1
    go_wp2_with fail
    refine (word_ok I1).mono ?_
    rintro e w2 ⟨⟨rfl, I2, G2⟩, Z2⟩
    have GG2 := Lib.hid (grown_trans (GG1.out) G2)
    have hZ2 := GG2.out.size
    clear G2
    go_wp2_with fail
    refine (word_ok I2).mono ?_
    rintro e w3 ⟨⟨rfl, I3, G3⟩, Z3⟩
    have GG3 := Lib.hid (grown_trans (GG2.out) G3)
    have hZ3 := GG3.out.size
    clear G3
    go_wp2_with fail
    refine (HA.out.b _ _ I3).mono ?_
    rintro e w4 ⟨v4, rfl, T4, I4, G4⟩
    obtain ⟨a4, c4, rfl⟩ := T4.form
    have GG4 := Lib.hid (grown_trans (GG3.out) G4)
    have hZ4 := GG4.out.size
    clear G4
    have X4 := Lib.hid (TR.down T4 (S' := w.heap.size) (by omega) HI.out.lt)
    clear T4
    go_wp2_with fail
    refine (good_parts (n := ⟨32, 0, (pkG (exactG zs) l2WordL ((exactG zs).bl 2 t).2).1, (pkG (exactG zs) l2WordL (pkG (exactG zs) l2WordL ((exactG zs).bl 2 t).2).2).1, []⟩) (parts_of [.slice a4 _ c4] [(Bk (pkG (exactG zs) l2WordL (pkG (exactG zs) l2WordL ((exactG zs).bl 2 t).2).2).2).1] rfl (fun i h _ => by have e0 : i = 0 := (by simpa using h); subst e0; exact X4.out)) (fun q hq => by
        simp only [List.mem_cons, List.not_mem_nil, or_false] at hq
        rcases hq with rfl
        · exact HA.out.gb _
        ) (by simp)).mono ?_
    rintro e w5 hmk
    have HM := Lib.hid (TOut.make I4 HI.out.lt (GG4.out) ((Below.refl _ _).alloc (Nat.le_refl _) _) hmk)
    clear hmk
    obtain ⟨vz, rfl, _⟩ := HM.out
    go_wp2
    go_ret
    rw [HQ.out]
    exact HM.out
theorem comp_ok {w : World} {s u : St} (hA : Stm B p len cap a zs D A1 A2 Bk) (H : In B w p a len cap zs s) (hO : ((exactG zs).bl 3 s).1 = 0) (hu : ((exactG zs).bl 3 s).2 = u) :
    Calls Try.prog 47 #[.pointer (some ⟨p, 0, none⟩), .int .i64 D] w (TOut B p a len cap zs (compG (exactG zs) A1 A2 Bk u).1 (compG (exactG zs) A1 A2 Bk u).2 w) := by
  obtain ⟨K, hK⟩ : ∃ K, ((exactG zs).bl 6 u).1 = K := ⟨_, rfl⟩
  obtain ⟨t, ht⟩ : ∃ t, ((exactG zs).bl 6 u).2 = t := ⟨_, rfl⟩
  have hb := exact_lt zs 6 u (by decide)
  rw [comp_arm, hK, ht]
  rw [hK] at hb
  rcases (show K = 0 ∨ K = 1 ∨ K = 2 ∨ K = 3 ∨ K = 4 ∨ K = 5 by omega) with rfl | rfl | rfl | rfl | rfl | rfl
  · exact comp0 hA H hO hu hK ht
  · exact comp1 hA H hO hu hK ht
  · exact comp2 hA H hO hu hK ht
  · exact comp3 hA H hO hu hK ht
  · exact comp4 hA H hO hu hK ht
  · exact comp5 hA H hO hu hK ht
theorem comp_small (h1 : SmE 21 A1) (h2 : SmE 21 A2) {k : Nat} (hb : SmE k Bk) : SmE (100 + 2 * k) (compG (exactG zs) A1 A2 Bk) := by
  intro s
  rw [comp_arm]
  generalize ((exactG zs).bl 6 s).1 = b
  generalize ((exactG zs).bl 6 s).2 = t
  have two : ∀ {x y : List Nd} (n : Nd), Small 21 x → Small k y → Small (100 + 2 * k) (makeT n [x, y]) := fun {x y} n hx hy => by
    refine ⟨by rw [makeT_len]; omega, ?_, (small_make (k := 21 + k) (m := 2) n [x, y] (fun q hq => ?_) (by simp) (by decide)).2.2⟩
    · rw [makeT_len]; have := hx.2.1; have := hy.2.1; simp only [sumL]; omega
    · simp only [List.mem_cons, List.not_mem_nil, or_false] at hq
      rcases hq with rfl | rfl
      · exact hx.mono (by omega)
      · exact hy.mono (by omega)
  rcases b with _ | _ | _ | _ | _ | b
  · exact two _ (h1 _) (hb _)
  · refine ⟨?_, ?_, (small_make (k := 21 + k) (m := 3) _ _ (fun q hq => ?_) (by simp) (by decide)).2.2⟩
    · show 0 < (makeT _ _).length
      rw [makeT_len]; omega
    · show (makeT _ _).length ≤ _
      rw [makeT_len]
      have x1 := (h1 t).2.1
      have x2 := (hb (A1 t).2).2.1
      have x3 := (hb (Bk (A1 t).2).2).2.1
      simp only [sumL]
      omega
    · simp only [List.mem_cons, List.not_mem_nil, or_false] at hq
      rcases hq with rfl | rfl | rfl
      · exact (h1 _).mono (by omega)
      · exact (hb _).mono (by omega)
      · exact (hb _).mono (by omega)
  · exact two _ (h1 _) (hb _)
  · have two' : ∀ {x y : List Nd} (n : Nd), Small k x → Small 21 y → Small (100 + 2 * k) (makeT n [x, y]) := fun {x y} n hx hy => by
      refine ⟨by rw [makeT_len]; omega, ?_, (small_make (k := 21 + k) (m := 2) n [x, y] (fun q hq => ?_) (by simp) (by decide)).2.2⟩
      · rw [makeT_len]; have := hx.2.1; have := hy.2.1; simp only [sumL]; omega
      · simp only [List.mem_cons, List.not_mem_nil, or_false] at hq
        rcases hq with rfl | rfl
        · exact hx.mono (by omega)
        · exact hy.mono (by omega)
    exact two' _ (hb _) (h1 _)
  · have m1 := maybe_small zs h1
    have m2 := maybe_small zs h2
    refine ⟨?_, ?_, (small_make (k := 22 + k) (m := 4) _ _ (fun q hq => ?_) (by simp) (by decide)).2.2⟩
    · show 0 < (makeT _ _).length
      rw [makeT_len]; omega
    · show (makeT _ _).length ≤ _
      rw [makeT_len]
      have x1 := (m2 t).2.1
      have x2 := (m1 (maybeG (exactG zs) A2 t).2).2.1
      have x3 := (m1 (maybeG (exactG zs) A1 (maybeG (exactG zs) A2 t).2).2).2.1
      have x4 := (hb (maybeG (exactG zs) A1 (maybeG (exactG zs) A1 (maybeG (exactG zs) A2 t).2).2).2).2.1
      simp only [sumL]
      omega
    · simp only [List.mem_cons, List.not_mem_nil, or_false] at hq
      rcases hq with rfl | rfl | rfl | rfl
      · exact (m2 _).mono (by omega)
      · exact (m1 _).mono (by omega)
      · exact (m1 _).mono (by omega)
      · exact (hb _).mono (by omega)
  · show Small _ (if ((exactG zs).bl 2 t).1 = 0 then _ else _ : List Nd × St).1
    split
    · exact (hb _).mono (by omega)
    · exact (sm1 _ (hb _)).mono (by omega)
set_option maxHeartbeats 1600000 in
theorem stmt_simple {w : World} {s u : St} {E0 E1 : St → List Nd × St} (hD : 1 ≤ D ∧ D ≤ 2) (hS : ExprC B p len cap a zs 58 D (simpleG (exactG zs) E0 E1)) (H : In B w p a len cap zs s) (hO : ¬ ((exactG zs).bl 3 s).1 = 0) (hu : ((exactG zs).bl 3 s).2 = u) :
    Calls Try.prog 47 #[.pointer (some ⟨p, 0, none⟩), .int .i64 D] w (TOut B p a len cap zs (simpleG (exactG zs) E0 E1 u).1 (simpleG (exactG zs) E0 E1 u).2 w) := by
  have HI := Lib.hid H
  have HS := Lib.hid hS
  have HO := Lib.hid hO
  have HU := Lib.hid hu
  clear H hS hO hu
  rcases (show D = 1 ∨ D = 2 by omega) with rfl | rfl
  all_goals
    clear hD
    go_enter Try.func47, Try.ntmps47
    go_wp2_with fail
    refine (once_no 3 (by decide) HO.out HI.out).mono ?_
    rintro e wz ⟨rfl, Iz, Gz⟩
    rw [HU.out] at Iz
    have HG := Lib.hid Gz
    clear Gz
    go_wp2_with fail
    refine (HS.out _ _ Iz).mono ?_
    rintro e w3 ho
    have HM := Lib.hid (TOut.back HG.out HI.out.lt ho)
    clear ho
    obtain ⟨vz, rfl, _⟩ := HM.out
    go_wp2
    go_ret
    exact HM.out
set_option maxHeartbeats 1600000 in
theorem stmt_zero {E0 E1 : St → List Nd × St} (hS : ExprC B p len cap a zs 58 0 (simpleG (exactG zs) E0 E1)) : ExprC B p len cap a zs 47 0 (simpleG (exactG zs) E0 E1) := by
  intro w s H
  have HI := Lib.hid H
  have HS := Lib.hid hS
  clear H hS
  go_enter Try.func47, Try.ntmps47
  go_wp2_with fail
  refine (HS.out _ _ HI.out).mono ?_
  rintro e w3 ho
  have HM := Lib.hid ho
  clear ho
  obtain ⟨vz, rfl, _⟩ := HM.out
  go_wp2
  go_ret
  exact HM.out
def kSt : Nat → Nat
  | 0 => 85
  | d + 1 => 185 + 2 * (1 + 2 * kSt d)
theorem stmt_all (B p len cap : Nat) (a : Option Addr) (zs : List Int) : ∀ d : Nat, d ≤ 2 → ExprC B p len cap a zs 47 (d : Int) (stmtG (exactG zs) d) ∧ SmE (kSt d) (stmtG (exactG zs) d) := by
  have e0 := expr_ok 0 (by decide) B p len cap a zs
  have e1 := expr_ok 1 (by decide) B p len cap a zs
  have e2 := expr_ok 2 (by decide) B p len cap a zs
  have z0 : SmE 21 (exprG (exactG zs) 0) := ((exprs_small zs 0).1).mono (by decide)
  have z1 : SmE 21 (exprG (exactG zs) 1) := ((exprs_small zs 1).1).mono (by decide)
  have z2 : SmE 21 (exprG (exactG zs) 2) := ((exprs_small zs 2).1).mono (by decide)
  intro d
  induction d with
  | zero =>
    intro _
    refine ⟨stmt_zero (simple_ok (k := 21) ⟨by decide, by decide, e0, fun w s H => expr_leaf _ (by decide) H, z0, z0, by decide⟩), (simple_small zs z0 z0).mono (by decide)⟩
  | succ d ih =>
    intro hd
    obtain ⟨i1, i2⟩ := ih (by omega)
    have hkd : kSt d ≤ 530 := by
      rcases (show d = 0 ∨ d = 1 by omega) with rfl | rfl <;> decide
    have hblk := block_ok (D := (d : Int)) (by omega) i1 i2 (by omega)
    have hbs := block_small (zs := zs) i2
    have hA : Stm B p len cap a zs (((d + 1 : Nat)) : Int) (exprG (exactG zs) 1) (exprG (exactG zs) 2) (blockG (exactG zs) (stmtG (exactG zs) d)) := ⟨by omega, by omega, e1, e2, by rw [show ((d + 1 : Nat) : Int) - 1 = (d : Int) by omega]; exact hblk, z1, z2, hbs.mono (by omega)⟩
    have hsim : ExprC B p len cap a zs 58 ((d + 1 : Nat) : Int) (simpleG (exactG zs) (exprG (exactG zs) (min (d + 1) 2)) (exprG (exactG zs) (min (d + 1) 2 - 1))) ∧ SmE 85 (simpleG (exactG zs) (exprG (exactG zs) (min (d + 1) 2)) (exprG (exactG zs) (min (d + 1) 2 - 1))) := by
      rcases (show d = 0 ∨ d = 1 by omega) with rfl | rfl
      · exact ⟨simple_ok (k := 21) ⟨by decide, by decide, e1, e0, z1, z0, by decide⟩, (simple_small zs z1 z0).mono (by decide)⟩
      · exact ⟨simple_ok (k := 21) ⟨by decide, by decide, e2, e1, z2, z1, by decide⟩, (simple_small zs z2 z1).mono (by decide)⟩
    constructor
    · intro w s H
      by_cases hc : ((exactG zs).bl 3 s).1 = 0
      · rw [show stmtG (exactG zs) (d + 1) s = compG (exactG zs) (exprG (exactG zs) 1) (exprG (exactG zs) 2) (blockG (exactG zs) (stmtG (exactG zs) d)) ((exactG zs).bl 3 s).2 from if_pos hc]
        exact comp_ok hA H hc rfl
      · rw [show stmtG (exactG zs) (d + 1) s = simpleG (exactG zs) (exprG (exactG zs) (min (d + 1) 2)) (exprG (exactG zs) (min (d + 1) 2 - 1)) ((exactG zs).bl 3 s).2 from if_neg hc]
        exact stmt_simple (by omega) hsim.1 H hc rfl
    · intro s
      by_cases hc : ((exactG zs).bl 3 s).1 = 0
      · rw [show stmtG (exactG zs) (d + 1) s = compG (exactG zs) (exprG (exactG zs) 1) (exprG (exactG zs) 2) (blockG (exactG zs) (stmtG (exactG zs) d)) ((exactG zs).bl 3 s).2 from if_pos hc]
        exact (comp_small z1 z2 hbs _).mono (by simp only [kSt]; omega)
      · rw [show stmtG (exactG zs) (d + 1) s = simpleG (exactG zs) (exprG (exactG zs) (min (d + 1) 2)) (exprG (exactG zs) (min (d + 1) 2 - 1)) ((exactG zs).bl 3 s).2 from if_neg hc]
        exact (hsim.2 _).mono (by simp only [kSt]; omega)
end
end Go.Proofs.Ytldkhdoboieibaa.draw
