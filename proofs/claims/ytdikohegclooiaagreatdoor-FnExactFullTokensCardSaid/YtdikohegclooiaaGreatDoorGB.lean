/-
  spec.l10List, spec.l10Named: contracts.
  spec.l10Named: contract.
  spec.l10Sides: contract.
-/
import Derived.Test.YtdikohegclooiaaGreatDoorSpecAt
namespace Go.Proofs.YtdikohegclooiaaGreatDoor.st
open Go.ChangeShapes Go.WideShapes Go.ChangeAt Go.RowKit
open tk (Tk)
open nd (Nd Ints)
open ps (Ps posOk kidI top)
open spell (Held)
open et
set_option linter.unusedVariables false
set_option linter.unusedSimpArgs false
set_option maxRecDepth 20000

theorem lst_succ (E : Nat → Ps → List Tk) (n : Nd) (J : Nat) : lst E n (J + 1) = lst E n J ++ (if J = 0 then [] else [tok 36]) ++ E (kd n J) top := rfl
theorem lst_le (E : Nat → Ps → List Tk) (n : Nd) (J : Nat) : ∀ d, (lst E n J).length ≤ (lst E n (J + d)).length := by
  intro d
  induction d with
  | zero => exact Nat.le_refl _
  | succ d ih =>
    refine Nat.le_trans ih ?_
    rw [← Nat.add_assoc, lst_succ, List.length_append, List.length_append]
    omega
theorem lst_to (E : Nat → Ps → List Tk) (n : Nd) {J K : Nat} (h : J ≤ K) : (lst E n J).length ≤ (lst E n K).length := by
  obtain ⟨d, rfl⟩ : ∃ d, K = J + d := ⟨K - J, by omega⟩
  exact lst_le E n J d
theorem lit0 (B : Nat) (w : World) (hB : B ≤ w.heap.size) (ty : TypeId) (hty : ty = 56) : own.Own B (.slice (some ⟨w.heap.size, 0, none⟩) 0 0) [] (w.alloc (.cells #[] ty)) := by
  subst hty
  exact ⟨rfl, .inr ⟨w.heap.size, 0, _, rfl, hB, heap_alloc_new w _, Nat.le_refl _, by decide, rfl, rfl⟩⟩
theorem kidc {n : Nd} {ak : Option Addr} {w w1 : World} (hi : Ints w.heap.size w ak n.kids) (hb : Below w.heap.size w w1) {K : Nat} (hK : K < n.kids.length) (hk : n.kids.getD K 0 = (kd n K : Int)) :
    ∃ bk ok, ak = some ⟨bk, ok, none⟩ ∧ bk < w.heap.size ∧ w1.cell? ⟨bk, ok + K, none⟩ = some (.int .i64 (kd n K : Int)) := by
  obtain ⟨bk, ok, e, hlt, hc⟩ := nd.ints_at hi hK
  refine ⟨bk, ok, e, hlt, ?_⟩
  rw [hb.cell (p := ⟨bk, ok + K, none⟩) hlt, hc K hK, ← hk, List.getD_eq_getElem?_getD, List.getElem?_eq_getElem hK]
  rfl
/-- The box of l10W. -/
structure Wb (g : Nat) (a : Option Addr) (m cap : Nat) (fl : Bool) (w : World) : Prop where
  c0 : w.cell? ⟨g, 0, none⟩ = some (.slice a m cap)
  c1 : w.cell? ⟨g, 1, none⟩ = some (.bool fl)
  lt : g < w.heap.size
theorem Wb.start (w : World) (a : Option Addr) (m cap : Nat) (fl : Bool) : Wb w.heap.size a m cap fl (w.alloc (.cells #[.slice a m cap, .bool fl] 48)) := by
  have h := heap_alloc_new w (.cells #[.slice a m cap, .bool fl] 48)
  exact ⟨by rw [cell_of_row _ _ 0 _ _ _ h]; rfl, by rw [cell_of_row _ _ 1 _ _ _ h]; rfl, by simp⟩
theorem Wb.keep {g : Nat} {a : Option Addr} {m cap : Nat} {fl : Bool} {w w1 : World} (h : Wb g a m cap fl w) (hb : Below w.heap.size w w1) : Wb g a m cap fl w1 :=
  ⟨(hb.cell (p := ⟨g, 0, none⟩) h.lt).trans h.c0, (hb.cell (p := ⟨g, 1, none⟩) h.lt).trans h.c1, Nat.lt_of_lt_of_le h.lt hb.size⟩

def RelLs (W0 : World) (E : Nat → Ps → List Tk) (n : Nd) (o i : Value) (wr : World) : Prop :=
  ∃ J : Nat, J ≤ n.kids.length ∧ i = .int .i64 (J : Int) ∧ own.Own W0.heap.size o (lst E n J) wr ∧ Below W0.heap.size W0 wr

set_option maxHeartbeats 1600000 in
theorem list_any {l : List Nd} {a : Option Addr} {m cap : Nat} {fl : Bool} {E : Nat → Ps → List Tk} (n : Nd) (ak : Option Addr) (ck : Nat) (w : World) (hc : nd.Lies w.heap.size w a l) (hn : n.kids.length ≤ 1048576) (hkd : ∀ K, K < n.kids.length → n.kids.getD K 0 = (kd n K : Int)) (hi : Ints w.heap.size w ak n.kids)
    (hE : ∀ K, K < n.kids.length → CallS 20 l a m cap fl (kd n K) (E (kd n K))) (hl : (lst E n n.kids.length).length ≤ 100000) :
    Calls Tryz.prog 57 #[.agg #[.slice a m cap, .bool fl], .slice ak n.kids.length ck] w (Out (lst E n n.kids.length) w) := by
  have hw0 : Below w.heap.size w (w.alloc (.cells #[.slice a m cap, .bool fl] 48)) := (Below.refl _ _).alloc (Nat.le_refl _) _
  have HB0 := Lib.hid hw0
  have HL := Lib.hid (hc.on hw0 (Nat.le_refl _))
  have HI := Lib.hid ((hi.keep hw0 (Nat.le_refl _)).up hw0.size)
  have HW := Lib.hid (Wb.start w a m cap fl)
  have HSZ := Lib.hid (show (w.alloc (.cells #[.slice a m cap, .bool fl] 48)).heap.size = w.heap.size + 1 by simp)
  have HKD := Lib.hid hkd
  have HE := Lib.hid hE
  have HLEN := Lib.hid hl
  obtain ⟨W0, hW⟩ : ∃ W, W = (w.alloc (.cells #[.slice a m cap, .bool fl] 48)) := ⟨_, rfl⟩
  obtain ⟨nk, hnk⟩ : ∃ nk, n.kids.length = nk := ⟨_, rfl⟩
  have HNK := Lib.hid hnk
  rw [hnk] at hn ⊢
  clear hc hi hkd hE hl hw0 hnk
  go_enter Tryz.func57, Tryz.ntmps57
  go_wp2
  rw [← hW] at HB0 HL HI HW HSZ ⊢
  clear hW
  have O0 := Lib.hid (lit0 W0.heap.size W0 (Nat.le_refl _) 56 rfl)
  rw [show ∀ o, own.Own W0.heap.size (.slice (some ⟨W0.heap.size, 0, none⟩) 0 0) [] o = own.Own W0.heap.size (.slice (some ⟨w.heap.size + 1, 0, none⟩) 0 0) [] o from fun o => by rw [HSZ.out]] at O0
  go_loopw [5, 6] (fun o i wr => RelLs W0 E n o i wr) (fun _ i _ => nk - (intOf i).toNat)
  case atStart => exact ⟨0, by omega, rfl, O0.out, (Below.refl _ _).alloc (Nat.le_refl _) _⟩
  case round =>
    obtain ⟨J, hJ, rfl, own2, b2⟩ := hrel
    have O2 := Lib.hid own2
    have B2 := Lib.hid b2
    rw [HNK.out] at hJ
    clear own2 b2
    by_cases hlt : J < nk
    · have hltk : J < n.kids.length := by have := HNK.out; omega
      obtain ⟨bk, ok, rfl, hbk, hkc⟩ := kidc HI.out (Below.refl _ _) hltk (HKD.out J hltk)
      have HY := Lib.hid (show ∀ W, Below W0.heap.size W0 W → W.cell? ⟨w.heap.size, 0, none⟩ = some (.slice a m cap) ∧ W.cell? ⟨w.heap.size, 1, none⟩ = some (.bool fl) ∧ W.cell? ⟨bk, ok + J, none⟩ = some (.int .i64 (kd n J : Int)) from fun W hb => ⟨(HW.out.keep hb).c0, (HW.out.keep hb).c1, (hb.cell (p := ⟨bk, ok + J, none⟩) hbk).trans hkc⟩)
      have hle := lst_to E n (show J + 1 ≤ n.kids.length by omega)
      rw [lst_succ, List.length_append, List.length_append] at hle
      have hi1 : (J : Int) < (nk : Int) := by omega
      have hi2 : (0 : Int) ≤ (J : Int) := by omega
      have HEJ := Lib.hid (HE.out J hltk)
      clear hkc
      by_cases h0 : J = 0
      · have HL1 := Lib.hid (show (lst E n J).length + (E (kd n J) top).length ≤ 1048576 by have := HLEN.out; omega)
        have hj0 : ¬ (0 : Int) < (J : Int) := by omega
        have HR := Lib.hid (show lst E n (J + 1) = lst E n J ++ E (kd n J) top by rw [lst_succ, if_pos h0, List.append_nil])
        clear hle h0
        go_wp2_with fail
        have YB := Lib.hid (HY.out _ (dr B2.out))
        go_region_held3 (fun w' => w'.cell? ⟨w.heap.size, 0, none⟩ = some (.slice a m cap) ∧ w'.cell? ⟨w.heap.size, 1, none⟩ = some (.bool fl) ∧ w'.cell? ⟨bk, ok + J, none⟩ = some (.int .i64 (kd n J : Int)))
          (first | (with_reducible exact YB.out) | (with_reducible exact HY.out _ BP.out) | (with_reducible exact HY.out _ BN.out) | (with_reducible exact HY.out _ BA.out))
          (first | (go_at_call 30; refine (ps.spec_top _).mono ?_; rintro e wP ⟨rfl, bP⟩; have BP := Lib.hid (nx B2.out (undrew bP))) | (go_at_call 20; refine (HEJ.out top top_ok _ (HL.out.on BP.out (Nat.le_refl _))).mono ?_; rintro e wN ⟨vN, rfl, bN, oN⟩; have BN := Lib.hid (nx BP.out bN); have ON := Lib.hid (oN.up BP.out.size)) | (refine step_toks (by rfl) _ _ (by rfl) W0.heap.size _ (lst E n J) (by rfl) ((O2.out.keep (undrew bP) (Nat.le_refl _)).keep bN (Nat.le_refl _)) W0.heap.size vN (E (kd n J) top) (by rfl) ON.out HL1.out BN.out.size ?_; intro vA wA oA bA gA; have BA := Lib.hid (BN.out.trans bA); have OA := Lib.hid oA; clear oA bA gA))
        all_goals
          go_wp2
          go_roundw
          case rel => exact ⟨J + 1, by omega, by go_num, by rw [HR.out]; exact OA.out, BA.out⟩
          case measure => simp [intOf]; omega
      · have hj0 : (0 : Int) < (J : Int) := by omega
        rw [if_neg h0] at hle
        have HL0 := Lib.hid (show (lst E n J).length + ([tok 36] : List Tk).length ≤ 1048576 by have := HLEN.out; simp only [List.length_cons, List.length_nil]; omega)
        have HL1 := Lib.hid (show (lst E n J ++ [tok 36]).length + (E (kd n J) top).length ≤ 1048576 by have := HLEN.out; simp only [List.length_cons, List.length_append, List.length_nil] at *; omega)
        have HR := Lib.hid (show lst E n (J + 1) = (lst E n J ++ [tok 36]) ++ E (kd n J) top by rw [lst_succ, if_neg h0])
        clear hle h0
        go_wp2_with (first | (go_at_call 40; refine (spec_tok 36 _).mono ?_; rintro e wS ⟨rfl, bS⟩; have BS := Lib.hid (nx B2.out bS); have OS := Lib.hid (O2.out.keep bS (Nat.le_refl _)); clear bS) | (at_builtin; refine wpList_toks (by rfl) _ _ (by rfl) W0.heap.size _ (lst E n J) (by rfl) (OS.out.keep ((Below.refl _ _).alloc (Nat.le_refl _) _) (Nat.le_refl _)) W0.heap.size _ [tok 36] (by rfl) (lit1 wS (tok 36) BS.out.size) HL0.out (al BS.out _).size ?_; intro vR wR oR bR gR; have BR := Lib.hid ((al BS.out _).trans bR); have OR := Lib.hid oR; clear oR bR gR))
        have YB := Lib.hid (HY.out _ (dr BR.out))
        go_region_held3 (fun w' => w'.cell? ⟨w.heap.size, 0, none⟩ = some (.slice a m cap) ∧ w'.cell? ⟨w.heap.size, 1, none⟩ = some (.bool fl) ∧ w'.cell? ⟨bk, ok + J, none⟩ = some (.int .i64 (kd n J : Int)))
          (first | (with_reducible exact YB.out) | (with_reducible exact HY.out _ BP.out) | (with_reducible exact HY.out _ BN.out) | (with_reducible exact HY.out _ BA.out))
          (first | (go_at_call 30; refine (ps.spec_top _).mono ?_; rintro e wP ⟨rfl, bP⟩; have BP := Lib.hid (nx BR.out (undrew bP))) | (go_at_call 20; refine (HEJ.out top top_ok _ (HL.out.on BP.out (Nat.le_refl _))).mono ?_; rintro e wN ⟨vN, rfl, bN, oN⟩; have BN := Lib.hid (nx BP.out bN); have ON := Lib.hid (oN.up BP.out.size)) | (refine step_toks (by rfl) _ _ (by rfl) W0.heap.size _ (lst E n J ++ [tok 36]) (by rfl) ((OR.out.keep (undrew bP) (Nat.le_refl _)).keep bN (Nat.le_refl _)) W0.heap.size vN (E (kd n J) top) (by rfl) ON.out HL1.out BN.out.size ?_; intro vA wA oA bA gA; have BA := Lib.hid (BN.out.trans bA); have OA := Lib.hid oA; clear oA bA gA))
        all_goals
          go_wp2
          go_roundw
          case rel => exact ⟨J + 1, by omega, by go_num, by rw [HR.out]; exact OA.out, BA.out⟩
          case measure => simp [intOf]; omega
    · obtain rfl : J = nk := by omega
      go_wp2
      go_ret
      exact ⟨u5, rfl, HB0.out.trans (B2.out.mono HB0.out.size), O2.out.up HB0.out.size⟩
end Go.Proofs.YtdikohegclooiaaGreatDoor.st

namespace Go.Proofs.YtdikohegclooiaaGreatDoor.st
open Go.ChangeShapes Go.WideShapes Go.ChangeAt Go.RowKit
open tk (Tk)
open nd (Nd Ints)
open ps (Ps posOk kidI top)
open spell (Held)
open et
set_option linter.unusedVariables false
set_option linter.unusedSimpArgs false
set_option maxRecDepth 20000

set_option maxHeartbeats 1600000 in
theorem named_any {l : List Nd} {a : Option Addr} {m cap : Nat} {fl : Bool} {E : Nat → Ps → List Tk} (t : Tk) (n : Nd) (ak : Option Addr) (ck : Nat) (op : Int) (w : World) (ho : 0 ≤ op ∧ op ≤ 100) (hc : nd.Lies w.heap.size w a l) (hn : n.kids.length ≤ 1048576) (hkd : ∀ K, K < n.kids.length → n.kids.getD K 0 = (kd n K : Int)) (hi : Ints w.heap.size w ak n.kids)
    (hE : ∀ K, K < n.kids.length → CallS 20 l a m cap fl (kd n K) (E (kd n K))) (hl : (lst E n n.kids.length).length ≤ 100000) :
    Calls Tryz.prog 54 #[.agg #[.slice a m cap, .bool fl], .agg #[.int .i64 t.k, .string t.s, .int .i64 t.a], .slice ak n.kids.length ck, .int .i64 op] w (Out (t :: brack E n op (op + 1)) w) := by
  have hw0 : Below w.heap.size w ((w.alloc (.cells #[.slice a m cap, .bool fl] 48)).alloc (.cells #[.int .i64 t.k, .string t.s, .int .i64 t.a] 56)) := ((Below.refl _ _).alloc (Nat.le_refl _) _).alloc (by simp) _
  have HW0 := Lib.hid hw0
  have HLS := Lib.hid (show ∀ W, Below ((w.alloc (.cells #[.slice a m cap, .bool fl] 48)).alloc (.cells #[.int .i64 t.k, .string t.s, .int .i64 t.a] 56)).heap.size ((w.alloc (.cells #[.slice a m cap, .bool fl] 48)).alloc (.cells #[.int .i64 t.k, .string t.s, .int .i64 t.a] 56)) W → Calls Tryz.prog 57 #[.agg #[.slice a m cap, .bool fl], .slice ak n.kids.length ck] W (Out (lst E n n.kids.length) W) from fun W hb => list_any n ak ck W ((hc.on hw0 (Nat.le_refl _)).on hb (Nat.le_refl _)) hn hkd ((((hi.keep hw0 (Nat.le_refl _)).up hw0.size).keep hb (Nat.le_refl _)).up hb.size) hE hl)
  have HY := Lib.hid (show ∀ W, Below ((w.alloc (.cells #[.slice a m cap, .bool fl] 48)).alloc (.cells #[.int .i64 t.k, .string t.s, .int .i64 t.a] 56)).heap.size ((w.alloc (.cells #[.slice a m cap, .bool fl] 48)).alloc (.cells #[.int .i64 t.k, .string t.s, .int .i64 t.a] 56)) W → W.cell? ⟨w.heap.size, 0, none⟩ = some (.slice a m cap) ∧ W.cell? ⟨w.heap.size, 1, none⟩ = some (.bool fl) ∧ W.cell? ⟨(w.heap.size + 1), 0, none⟩ = some (.int .i64 t.k) ∧ W.cell? ⟨(w.heap.size + 1), 1, none⟩ = some (.string t.s) ∧ W.cell? ⟨(w.heap.size + 1), 2, none⟩ = some (.int .i64 t.a) from fun W hb => by
    have hW := ((Wb.start w a m cap fl).keep ((Below.refl _ _).alloc (Nat.le_refl _) (.cells #[.int .i64 t.k, .string t.s, .int .i64 t.a] 56))).keep hb
    have h2 := heap_alloc_new (w.alloc (.cells #[.slice a m cap, .bool fl] 48)) (.cells #[.int .i64 t.k, .string t.s, .int .i64 t.a] 56)
    rw [show ∀ o, (w.alloc o).heap.size = w.heap.size + 1 from fun o => by simp] at h2
    have h3 := (hb.block (w.heap.size + 1) (by simp)).trans h2
    exact ⟨hW.c0, hW.c1, by rw [cell_of_row _ _ 0 _ _ _ h3]; rfl, by rw [cell_of_row _ _ 1 _ _ _ h3]; rfl, by rw [cell_of_row _ _ 2 _ _ _ h3]; rfl⟩)
  have HL1 := Lib.hid (show ([t, tok op] : List Tk).length + (lst E n n.kids.length).length ≤ 1048576 by simp only [List.length_cons, List.length_nil]; omega)
  have HL2 := Lib.hid (show ([t, tok op] ++ lst E n n.kids.length).length + ([tok (op + 1)] : List Tk).length ≤ 1048576 by simp only [List.length_append, List.length_cons, List.length_nil]; omega)
  obtain ⟨W0, hW⟩ : ∃ W, W = ((w.alloc (.cells #[.slice a m cap, .bool fl] 48)).alloc (.cells #[.int .i64 t.k, .string t.s, .int .i64 t.a] 56)) := ⟨_, rfl⟩
  have ho1 : 0 ≤ op + 1 := by omega
  have ho2 : op + 1 ≤ 101 := by omega
  clear hc hkd hi hE hl hw0
  go_enter Tryz.func54, Tryz.ntmps54
  go_wp2_with fail
  rw [← hW] at HW0 HLS HY ⊢
  clear hW
  have B0 := Lib.hid (Below.refl W0.heap.size W0)
  have YB1 := Lib.hid (HY.out _ (dr B0.out))
  go_region_held3 (fun W => W.cell? ⟨w.heap.size, 0, none⟩ = some (.slice a m cap) ∧ W.cell? ⟨w.heap.size, 1, none⟩ = some (.bool fl) ∧ W.cell? ⟨(w.heap.size + 1), 0, none⟩ = some (.int .i64 t.k) ∧ W.cell? ⟨(w.heap.size + 1), 1, none⟩ = some (.string t.s) ∧ W.cell? ⟨(w.heap.size + 1), 2, none⟩ = some (.int .i64 t.a))
    (first | (with_reducible exact YB1.out) | (with_reducible exact HY.out _ BT1.out) | (with_reducible exact HY.out _ (al BT1.out _)) | (with_reducible exact HY.out _ BN1.out) | (with_reducible exact HY.out _ (al BN1.out _)) | (with_reducible exact HY.out _ BA1.out))
    (first | (go_at_call 40; refine (spec_tok op _).mono ?_; rintro e wT1 ⟨rfl, bT1⟩; have BT1 := Lib.hid (nx B0.out (undrew bT1))) | (go_at_call 57; refine (HLS.out _ (show Below W0.heap.size W0 _ from by first | with_reducible exact BT1.out | with_reducible exact al BT1.out _)).mono ?_; rintro e wN1 ⟨vN1, rfl, bN1, oN1⟩; have BN1 := Lib.hid (show Below W0.heap.size W0 wN1 from by first | with_reducible exact nx BT1.out bN1 | with_reducible exact nx (al BT1.out _) bN1); have ON1 := Lib.hid (show own.Own W0.heap.size vN1 (lst E n n.kids.length) wN1 from by first | with_reducible exact oN1.up BT1.out.size | with_reducible exact oN1.up (al BT1.out _).size)) | (refine step_toks (by rfl) _ _ (by rfl) W0.heap.size _ ([t, tok op]) (by rfl) (by first | exact lit2 wN1 t (tok op) BN1.out.size | exact (lit2 wT1 t (tok op) BT1.out.size).keep bN1 (Nat.le_refl _)) W0.heap.size vN1 (lst E n n.kids.length) (by rfl) (by first | with_reducible exact ON1.out | with_reducible exact ON1.out.keep ((Below.refl _ _).alloc (Nat.le_refl _) _) (Nat.le_refl _)) HL1.out (by first | with_reducible exact BN1.out.size | with_reducible exact (al BN1.out _).size) ?_; intro vA1 wA1 oA1 bA1 gA1; have BA1 := Lib.hid (show Below W0.heap.size W0 wA1 from by first | with_reducible exact BN1.out.trans bA1 | with_reducible exact (al BN1.out _).trans bA1); have OA1 := Lib.hid oA1; clear oA1 bA1 gA1))
  all_goals
    go_wp2_with (first | (go_at_call 40; refine (spec_tok (op + 1) _).mono ?_; rintro e wS2 ⟨rfl, bS2⟩; have BS2 := Lib.hid (nx BA1.out bS2); have OS2 := Lib.hid (OA1.out.keep bS2 (Nat.le_refl _)); clear bS2) | (at_builtin; refine wpList_toks (by rfl) _ _ (by rfl) W0.heap.size _ ([t, tok op] ++ lst E n n.kids.length) (by rfl) (OS2.out.keep ((Below.refl _ _).alloc (Nat.le_refl _) _) (Nat.le_refl _)) W0.heap.size _ [tok (op + 1)] (by rfl) (lit1 wS2 (tok (op + 1)) BS2.out.size) HL2.out (al BS2.out _).size ?_; intro vR2 wR2 oR2 bR2 gR2; have BR2 := Lib.hid ((al BS2.out _).trans bR2); have OR2 := Lib.hid oR2; clear oR2 bR2 gR2))
    go_ret
    refine ⟨vR2, rfl, HW0.out.trans (BR2.out.mono HW0.out.size), ?_⟩
    have := OR2.out.up HW0.out.size
    simpa only [brack, List.append_assoc, List.cons_append, List.nil_append] using this
end Go.Proofs.YtdikohegclooiaaGreatDoor.st

namespace Go.Proofs.YtdikohegclooiaaGreatDoor.st
open Go.ChangeShapes Go.WideShapes Go.ChangeAt Go.RowKit
open tk (Tk)
open nd (Nd Ints)
open ps (Ps posOk kidI top)
open spell (Held)
open et
set_option linter.unusedVariables false
set_option linter.unusedSimpArgs false
set_option maxRecDepth 20000

/-- What a walk is given at a node of a right tree: a valid position, the contracts for its kids, how long their tokens are. -/
structure Gis (l : List Nd) (a : Option Addr) (m cap : Nat) (fl : Bool) (i : Nat) (n : Nd) (p : Ps) (E U : Nat → Ps → List Tk) : Prop where
  good : et.Good l i n
  pos : posOk p.l p.d = true
  e : ∀ K, K < n.kids.length → CallS 20 l a m cap fl (et.kd n K) (E (et.kd n K))
  u : 0 < n.kids.length → CallS 38 l a m cap fl (et.kd n 0) (U (et.kd n 0))
  le : ∀ K, K < n.kids.length → ∀ q, (E (et.kd n K) q).length ≤ 100000
  lu : 0 < n.kids.length → ∀ q, (U (et.kd n 0) q).length ≤ 100000
  ls : (lst E n n.kids.length).length ≤ 100000
  lv : n.k = 9 ∨ n.k = 10 ∨ n.k = 15 → ∀ q : Ps, posOk q.l q.d = true → U (et.kd n 0) q = U (et.kd n 0) ⟨14, false, false, false, false⟩
section
variable {l : List Nd} {a : Option Addr} {m cap : Nat} {fl : Bool} {i : Nat} {n : Nd} {p : Ps} {E U : Nat → Ps → List Tk}
theorem Gis.q (h : Gis l a m cap fl i n p E U) {K : Nat} (hK : K < n.kids.length) : posOk (et.kp n K p).l (et.kp n K p).d = true := (kp_ok h.good h.pos hK).1
theorem Gis.kd (h : Gis l a m cap fl i n p E U) {K : Nat} (hK : K < n.kids.length) : n.kids.getD K 0 = (et.kd n K : Int) := (h.good.kids K hK).2.1
theorem Gis.len (h : Gis l a m cap fl i n p E U) : n.kids.length ≤ 1048576 := by have := h.good.most; omega
theorem Gis.kpos (h : Gis l a m cap fl i n p E U) {K : Nat} (hK : K < n.kids.length) (Ki : Int) (hKi : Ki = (K : Int)) (ak : Option Addr) (ck : Nat) (W : World) :
    Calls Tryz.prog 56 #[.agg #[.int .i64 n.k, .int .i64 n.op, .string n.s, .string n.t, .slice ak n.kids.length ck], .int .i64 Ki, .agg #[.int .i64 p.l, .bool p.d, .bool p.i, .bool p.g, .bool p.s]] W fun e w' => e = .returned (.agg #[.int .i64 (et.kp n Ki p).l, .bool (et.kp n Ki p).d, .bool (et.kp n Ki p).i, .bool (et.kp n Ki p).g, .bool (et.kp n Ki p).s]) ∧ Below W.heap.size W w' := by
  have := ps.spec_kidPos n.k n.op n.s n.t ak n.kids.length ck Ki p.l p.d p.i p.g p.s W h.len
  subst hKi
  rw [← (kp_ok h.good h.pos hK).2] at this
  exact this
end

/-- Three boxes. -/
theorem three (w : World) (o1 o2 o3 : Obj) : (((w.alloc o1).alloc o2).alloc o3).heap[w.heap.size]? = some o1 ∧ (((w.alloc o1).alloc o2).alloc o3).heap[w.heap.size + 1]? = some o2 ∧ (((w.alloc o1).alloc o2).alloc o3).heap[w.heap.size + 1 + 1]? = some o3 ∧ Below w.heap.size w (((w.alloc o1).alloc o2).alloc o3) ∧ (((w.alloc o1).alloc o2).alloc o3).heap.size = w.heap.size + 1 + 1 + 1 := by
  have s1 : (w.alloc o1).heap.size = w.heap.size + 1 := by simp
  have s2 : ((w.alloc o1).alloc o2).heap.size = w.heap.size + 1 + 1 := by simp
  have h1 := heap_alloc_new w o1
  have h2 := heap_alloc_new (w.alloc o1) o2
  have h3 := heap_alloc_new ((w.alloc o1).alloc o2) o3
  rw [s1] at h2
  rw [s2] at h3
  refine ⟨?_, ?_, h3, (((Below.refl _ _).alloc (Nat.le_refl _) _).alloc (by simp) _).alloc (by simp; omega) _, by simp⟩
  · rw [Below.heap_alloc _ _ _ (by omega), Below.heap_alloc _ _ _ (by omega)]
    exact h1
  · rw [Below.heap_alloc _ _ _ (by omega)]
    exact h2

set_option maxHeartbeats 3200000 in
theorem sides_cond {l : List Nd} {a : Option Addr} {m cap : Nat} {fl : Bool} {i : Nat} {E U : Nat → Ps → List Tk} (n : Nd) (ak : Option Addr) (ck : Nat) (p : Ps) (w : World) (hc : n.k = 14) (hL : nd.Lies w.heap.size w a l) (hi : Ints w.heap.size w ak n.kids) (hG : Gis l a m cap fl i n p E U) :
    Calls Tryz.prog 58 #[.agg #[.slice a m cap, .bool fl], .agg #[.int .i64 n.k, .int .i64 n.op, .string n.s, .string n.t, .slice ak n.kids.length ck], .agg #[.int .i64 p.l, .bool p.d, .bool p.i, .bool p.g, .bool p.s]] w (Out (body E U n p) w) := by
  have hlen : n.kids.length = 3 := hG.good.three hc
  have hk0 : 0 < n.kids.length := by have := hlen; omega
  obtain ⟨bk, ok, hak, hbk, hkc0⟩ := kidc hi (Below.refl _ _) hk0 (hG.kd hk0)
  have hk1 : 1 < n.kids.length := by have := hlen; omega
  obtain ⟨bk', ok', hak', hbk', hkc1⟩ := kidc hi (Below.refl _ _) hk1 (hG.kd hk1)
  obtain ⟨rfl, rfl⟩ : bk = bk' ∧ ok = ok' := by rw [hak] at hak'; injection hak' with h1; injection h1 with h1 h2 h3; exact ⟨h1, h2⟩
  clear hak' hbk'
  have hk2 : 2 < n.kids.length := by have := hlen; omega
  obtain ⟨bk', ok', hak', hbk', hkc2⟩ := kidc hi (Below.refl _ _) hk2 (hG.kd hk2)
  obtain ⟨rfl, rfl⟩ : bk = bk' ∧ ok = ok' := by rw [hak] at hak'; injection hak' with h1; injection h1 with h1 h2 h3; exact ⟨h1, h2⟩
  clear hak' hbk'
  subst hak
  rw [Nat.add_zero] at hkc0
  have HKP0 := Lib.hid (hG.kpos hk0 0 rfl (some ⟨bk, ok, none⟩) ck)
  have HE0 := Lib.hid (hG.e 0 hk0)
  have HQ0 := Lib.hid (show posOk (kp n 0 p).l (kp n 0 p).d = true from hG.q hk0)
  have hle0 := hG.le 0 hk0 (kp n 0 p)
  have HKP1 := Lib.hid (hG.kpos hk1 1 rfl (some ⟨bk, ok, none⟩) ck)
  have HE1 := Lib.hid (hG.e 1 hk1)
  have HQ1 := Lib.hid (show posOk (kp n 1 p).l (kp n 1 p).d = true from hG.q hk1)
  have hle1 := hG.le 1 hk1 (kp n 1 p)
  have HKP2 := Lib.hid (hG.kpos hk2 2 rfl (some ⟨bk, ok, none⟩) ck)
  have HE2 := Lib.hid (hG.e 2 hk2)
  have HQ2 := Lib.hid (show posOk (kp n 2 p).l (kp n 2 p).d = true from hG.q hk2)
  have hle2 := hG.le 2 hk2 (kp n 2 p)
  have hkz : (0 : Int) ≤ (n.kids.length : Int) := by omega
  have hkn : (0 : Int) < (n.kids.length : Int) := by omega
  have hkb : (n.kids.length : Int) ≤ 1048576 := by have := hG.len; omega
  have hkn1 : (1 : Int) < (n.kids.length : Int) := by omega
  have hkn2 : (2 : Int) < (n.kids.length : Int) := by omega
  obtain ⟨hh0, hh1, hh2, hw0, hs0⟩ := three w (.cells #[.slice a m cap, .bool fl] 48) (.cells #[.int .i64 n.k, .int .i64 n.op, .string n.s, .string n.t, .slice (some ⟨bk, ok, none⟩) n.kids.length ck] 45) (.cells #[.int .i64 p.l, .bool p.d, .bool p.i, .bool p.g, .bool p.s] 30)
  have HY := Lib.hid (show ∀ W, Below (((w.alloc (.cells #[.slice a m cap, .bool fl] 48)).alloc (.cells #[.int .i64 n.k, .int .i64 n.op, .string n.s, .string n.t, .slice (some ⟨bk, ok, none⟩) n.kids.length ck] 45)).alloc (.cells #[.int .i64 p.l, .bool p.d, .bool p.i, .bool p.g, .bool p.s] 30)).heap.size (((w.alloc (.cells #[.slice a m cap, .bool fl] 48)).alloc (.cells #[.int .i64 n.k, .int .i64 n.op, .string n.s, .string n.t, .slice (some ⟨bk, ok, none⟩) n.kids.length ck] 45)).alloc (.cells #[.int .i64 p.l, .bool p.d, .bool p.i, .bool p.g, .bool p.s] 30)) W → W.cell? ⟨w.heap.size, 0, none⟩ = some (.slice a m cap) ∧ W.cell? ⟨w.heap.size, 1, none⟩ = some (.bool fl) ∧ W.cell? ⟨(w.heap.size + 1), 0, none⟩ = some (.int .i64 n.k) ∧ W.cell? ⟨(w.heap.size + 1), 1, none⟩ = some (.int .i64 n.op) ∧ W.cell? ⟨(w.heap.size + 1), 2, none⟩ = some (.string n.s) ∧ W.cell? ⟨(w.heap.size + 1), 3, none⟩ = some (.string n.t) ∧ W.cell? ⟨(w.heap.size + 1), 4, none⟩ = some (.slice (some ⟨bk, ok, none⟩) n.kids.length ck) ∧ W.cell? ⟨(w.heap.size + 1 + 1), 0, none⟩ = some (.int .i64 p.l) ∧ W.cell? ⟨(w.heap.size + 1 + 1), 1, none⟩ = some (.bool p.d) ∧ W.cell? ⟨(w.heap.size + 1 + 1), 2, none⟩ = some (.bool p.i) ∧ W.cell? ⟨(w.heap.size + 1 + 1), 3, none⟩ = some (.bool p.g) ∧ W.cell? ⟨(w.heap.size + 1 + 1), 4, none⟩ = some (.bool p.s) ∧ W.cell? ⟨bk, ok, none⟩ = some (.int .i64 (kd n 0 : Int)) ∧ W.cell? ⟨bk, ok + 1, none⟩ = some (.int .i64 (kd n 1 : Int)) ∧ W.cell? ⟨bk, ok + 2, none⟩ = some (.int .i64 (kd n 2 : Int)) from fun W hb => by
    have hh0 := (hb.block w.heap.size (by omega)).trans hh0
    have hh1 := (hb.block (w.heap.size + 1) (by omega)).trans hh1
    have hh2 := (hb.block (w.heap.size + 1 + 1) (by omega)).trans hh2
    have hkc0 := (hb.cell (p := ⟨bk, ok, none⟩) (show bk < _ by omega)).trans ((hw0.cell (p := ⟨bk, ok, none⟩) hbk).trans hkc0)
    have hkc1 := (hb.cell (p := ⟨bk, ok + 1, none⟩) (show bk < _ by omega)).trans ((hw0.cell (p := ⟨bk, ok + 1, none⟩) hbk).trans hkc1)
    have hkc2 := (hb.cell (p := ⟨bk, ok + 2, none⟩) (show bk < _ by omega)).trans ((hw0.cell (p := ⟨bk, ok + 2, none⟩) hbk).trans hkc2)
    exact ⟨by rw [cell_of_row _ _ 0 _ _ _ (hh0)]; rfl, by rw [cell_of_row _ _ 1 _ _ _ (hh0)]; rfl, by rw [cell_of_row _ _ 0 _ _ _ (hh1)]; rfl, by rw [cell_of_row _ _ 1 _ _ _ (hh1)]; rfl, by rw [cell_of_row _ _ 2 _ _ _ (hh1)]; rfl, by rw [cell_of_row _ _ 3 _ _ _ (hh1)]; rfl, by rw [cell_of_row _ _ 4 _ _ _ (hh1)]; rfl, by rw [cell_of_row _ _ 0 _ _ _ (hh2)]; rfl, by rw [cell_of_row _ _ 1 _ _ _ (hh2)]; rfl, by rw [cell_of_row _ _ 2 _ _ _ (hh2)]; rfl, by rw [cell_of_row _ _ 3 _ _ _ (hh2)]; rfl, by rw [cell_of_row _ _ 4 _ _ _ (hh2)]; rfl, hkc0, hkc1, hkc2⟩)
  have HW0 := Lib.hid hw0
  have HL := Lib.hid (hL.on hw0 (Nat.le_refl _))
  have HBODY : body E U n p = (((E (kd n 0) (kp n 0 p) ++ [tok 65]) ++ E (kd n 1) (kp n 1 p)) ++ [tok 66]) ++ E (kd n 2) (kp n 2 p) := by rw [body_14 hc]; simp only [List.append_assoc, List.cons_append, List.nil_append]
  rw [HBODY]
  obtain ⟨e14, e14'⟩ := rt.eq_facts hc
  have HLN1 := Lib.hid (show (E (kd n 0) (kp n 0 p)).length + ([tok 65]).length ≤ 1048576 by (try simp only [List.length_append, List.length_cons, List.length_nil]); omega)
  have HLN2 := Lib.hid (show ((E (kd n 0) (kp n 0 p)) ++ [tok 65]).length + (E (kd n 1) (kp n 1 p)).length ≤ 1048576 by (try simp only [List.length_append, List.length_cons, List.length_nil]); omega)
  have HLN3 := Lib.hid (show (((E (kd n 0) (kp n 0 p)) ++ [tok 65]) ++ E (kd n 1) (kp n 1 p)).length + ([tok 66]).length ≤ 1048576 by (try simp only [List.length_append, List.length_cons, List.length_nil]); omega)
  have HLN4 := Lib.hid (show ((((E (kd n 0) (kp n 0 p)) ++ [tok 65]) ++ E (kd n 1) (kp n 1 p)) ++ [tok 66]).length + (E (kd n 2) (kp n 2 p)).length ≤ 1048576 by (try simp only [List.length_append, List.length_cons, List.length_nil]); omega)
  obtain ⟨W0, hW⟩ : ∃ W, W = (((w.alloc (.cells #[.slice a m cap, .bool fl] 48)).alloc (.cells #[.int .i64 n.k, .int .i64 n.op, .string n.s, .string n.t, .slice (some ⟨bk, ok, none⟩) n.kids.length ck] 45)).alloc (.cells #[.int .i64 p.l, .bool p.d, .bool p.i, .bool p.g, .bool p.s] 30)) := ⟨_, rfl⟩
  clear hL hi hG hc hh0 hh1 hh2 hw0 hs0 hkc0 hkc1 hkc2 hle0 hle1 hle2 hlen
  go_enter Tryz.func58, Tryz.ntmps58
  go_wp2_with fail
  rw [← hW] at HW0 HL HY ⊢
  clear hW
  have B0 := Lib.hid (Below.refl W0.heap.size W0)
  have YB1 := Lib.hid (HY.out _ (dr B0.out))
  go_region_held3 (fun W => W.cell? ⟨w.heap.size, 0, none⟩ = some (.slice a m cap) ∧ W.cell? ⟨w.heap.size, 1, none⟩ = some (.bool fl) ∧ W.cell? ⟨(w.heap.size + 1), 0, none⟩ = some (.int .i64 n.k) ∧ W.cell? ⟨(w.heap.size + 1), 1, none⟩ = some (.int .i64 n.op) ∧ W.cell? ⟨(w.heap.size + 1), 2, none⟩ = some (.string n.s) ∧ W.cell? ⟨(w.heap.size + 1), 3, none⟩ = some (.string n.t) ∧ W.cell? ⟨(w.heap.size + 1), 4, none⟩ = some (.slice (some ⟨bk, ok, none⟩) n.kids.length ck) ∧ W.cell? ⟨(w.heap.size + 1 + 1), 0, none⟩ = some (.int .i64 p.l) ∧ W.cell? ⟨(w.heap.size + 1 + 1), 1, none⟩ = some (.bool p.d) ∧ W.cell? ⟨(w.heap.size + 1 + 1), 2, none⟩ = some (.bool p.i) ∧ W.cell? ⟨(w.heap.size + 1 + 1), 3, none⟩ = some (.bool p.g) ∧ W.cell? ⟨(w.heap.size + 1 + 1), 4, none⟩ = some (.bool p.s) ∧ W.cell? ⟨bk, ok, none⟩ = some (.int .i64 (kd n 0 : Int)) ∧ W.cell? ⟨bk, ok + 1, none⟩ = some (.int .i64 (kd n 1 : Int)) ∧ W.cell? ⟨bk, ok + 2, none⟩ = some (.int .i64 (kd n 2 : Int)))
    (first | (with_reducible exact YB1.out) | (with_reducible exact HY.out _ BP1.out) | (with_reducible exact HY.out _ (al BP1.out _)) | (with_reducible exact HY.out _ BN1.out) | (with_reducible exact HY.out _ (al BN1.out _)) | (with_reducible exact HY.out _ BN1.out))
    (first | (go_at_call 56; refine (HKP0.out _).mono ?_; rintro e wP1 ⟨rfl, bP1⟩; have BP1 := Lib.hid (nx B0.out (undrew bP1))) | (go_at_call 20; refine (HE0.out (kp n 0 p) HQ0.out _ (by first | with_reducible exact HL.out.on BP1.out (Nat.le_refl _) | with_reducible exact HL.out.on (al BP1.out _) (Nat.le_refl _))).mono ?_; rintro e wN1 ⟨vN1, rfl, bN1, oN1⟩; have BN1 := Lib.hid (show Below W0.heap.size W0 wN1 from by first | with_reducible exact nx BP1.out bN1 | with_reducible exact nx (al BP1.out _) bN1); have ON1 := Lib.hid (show own.Own W0.heap.size vN1 (E (kd n 0) (kp n 0 p)) wN1 from by first | with_reducible exact oN1.up BP1.out.size | with_reducible exact oN1.up (al BP1.out _).size)))
  obtain ⟨f0, f1, f2, f3, f4, f5, f6, f7, f8, f9, f10, f11, f12, f13, f14⟩ := HY.out _ BN1.out
  go_wp2_with (first | (go_at_call 40; refine (spec_tok 65 _).mono ?_; rintro e wS2 ⟨rfl, bS2⟩; have BS2 := Lib.hid (nx BN1.out bS2); have OS2 := Lib.hid (ON1.out.keep bS2 (Nat.le_refl _)); clear bS2 f0 f1 f2 f3 f4 f5 f6 f7 f8 f9 f10 f11 f12 f13 f14) | (at_builtin; refine wpList_toks (by rfl) _ _ (by rfl) W0.heap.size _ (E (kd n 0) (kp n 0 p)) (by rfl) (OS2.out.keep ((Below.refl _ _).alloc (Nat.le_refl _) _) (Nat.le_refl _)) W0.heap.size _ [tok 65] (by rfl) (lit1 wS2 (tok 65) BS2.out.size) HLN1.out (al BS2.out _).size ?_; intro vR2 wR2 oR2 bR2 gR2; have BR2 := Lib.hid ((al BS2.out _).trans bR2); have OR2 := Lib.hid oR2; clear oR2 bR2 gR2))
  have YB3 := Lib.hid (HY.out _ (dr BR2.out))
  go_region_held3 (fun W => W.cell? ⟨w.heap.size, 0, none⟩ = some (.slice a m cap) ∧ W.cell? ⟨w.heap.size, 1, none⟩ = some (.bool fl) ∧ W.cell? ⟨(w.heap.size + 1), 0, none⟩ = some (.int .i64 n.k) ∧ W.cell? ⟨(w.heap.size + 1), 1, none⟩ = some (.int .i64 n.op) ∧ W.cell? ⟨(w.heap.size + 1), 2, none⟩ = some (.string n.s) ∧ W.cell? ⟨(w.heap.size + 1), 3, none⟩ = some (.string n.t) ∧ W.cell? ⟨(w.heap.size + 1), 4, none⟩ = some (.slice (some ⟨bk, ok, none⟩) n.kids.length ck) ∧ W.cell? ⟨(w.heap.size + 1 + 1), 0, none⟩ = some (.int .i64 p.l) ∧ W.cell? ⟨(w.heap.size + 1 + 1), 1, none⟩ = some (.bool p.d) ∧ W.cell? ⟨(w.heap.size + 1 + 1), 2, none⟩ = some (.bool p.i) ∧ W.cell? ⟨(w.heap.size + 1 + 1), 3, none⟩ = some (.bool p.g) ∧ W.cell? ⟨(w.heap.size + 1 + 1), 4, none⟩ = some (.bool p.s) ∧ W.cell? ⟨bk, ok, none⟩ = some (.int .i64 (kd n 0 : Int)) ∧ W.cell? ⟨bk, ok + 1, none⟩ = some (.int .i64 (kd n 1 : Int)) ∧ W.cell? ⟨bk, ok + 2, none⟩ = some (.int .i64 (kd n 2 : Int)))
    (first | (with_reducible exact YB3.out) | (with_reducible exact HY.out _ BP3.out) | (with_reducible exact HY.out _ (al BP3.out _)) | (with_reducible exact HY.out _ BN3.out) | (with_reducible exact HY.out _ (al BN3.out _)) | (with_reducible exact HY.out _ BA3.out))
    (first | (go_at_call 56; refine (HKP1.out _).mono ?_; rintro e wP3 ⟨rfl, bP3⟩; have BP3 := Lib.hid (nx BR2.out (undrew bP3))) | (go_at_call 20; refine (HE1.out (kp n 1 p) HQ1.out _ (by first | with_reducible exact HL.out.on BP3.out (Nat.le_refl _) | with_reducible exact HL.out.on (al BP3.out _) (Nat.le_refl _))).mono ?_; rintro e wN3 ⟨vN3, rfl, bN3, oN3⟩; have BN3 := Lib.hid (show Below W0.heap.size W0 wN3 from by first | with_reducible exact nx BP3.out bN3 | with_reducible exact nx (al BP3.out _) bN3); have ON3 := Lib.hid (show own.Own W0.heap.size vN3 (E (kd n 1) (kp n 1 p)) wN3 from by first | with_reducible exact oN3.up BP3.out.size | with_reducible exact oN3.up (al BP3.out _).size)) | (refine step_toks (by rfl) _ _ (by rfl) W0.heap.size _ ((E (kd n 0) (kp n 0 p)) ++ [tok 65]) (by rfl) ((OR2.out.keep (undrew bP3) (Nat.le_refl _)).keep bN3 (Nat.le_refl _)) W0.heap.size vN3 (E (kd n 1) (kp n 1 p)) (by rfl) ON3.out HLN2.out (by first | with_reducible exact BN3.out.size | with_reducible exact (al BN3.out _).size) ?_; intro vA3 wA3 oA3 bA3 gA3; have BA3 := Lib.hid (show Below W0.heap.size W0 wA3 from by first | with_reducible exact BN3.out.trans bA3 | with_reducible exact (al BN3.out _).trans bA3); have OA3 := Lib.hid oA3; clear oA3 bA3 gA3))
  obtain ⟨f0, f1, f2, f3, f4, f5, f6, f7, f8, f9, f10, f11, f12, f13, f14⟩ := HY.out _ BA3.out
  go_wp2_with (first | (go_at_call 40; refine (spec_tok 66 _).mono ?_; rintro e wS4 ⟨rfl, bS4⟩; have BS4 := Lib.hid (nx BA3.out bS4); have OS4 := Lib.hid (OA3.out.keep bS4 (Nat.le_refl _)); clear bS4 f0 f1 f2 f3 f4 f5 f6 f7 f8 f9 f10 f11 f12 f13 f14) | (at_builtin; refine wpList_toks (by rfl) _ _ (by rfl) W0.heap.size _ (((E (kd n 0) (kp n 0 p)) ++ [tok 65]) ++ E (kd n 1) (kp n 1 p)) (by rfl) (OS4.out.keep ((Below.refl _ _).alloc (Nat.le_refl _) _) (Nat.le_refl _)) W0.heap.size _ [tok 66] (by rfl) (lit1 wS4 (tok 66) BS4.out.size) HLN3.out (al BS4.out _).size ?_; intro vR4 wR4 oR4 bR4 gR4; have BR4 := Lib.hid ((al BS4.out _).trans bR4); have OR4 := Lib.hid oR4; clear oR4 bR4 gR4))
  have YB5 := Lib.hid (HY.out _ (dr BR4.out))
  go_region_held3 (fun W => W.cell? ⟨w.heap.size, 0, none⟩ = some (.slice a m cap) ∧ W.cell? ⟨w.heap.size, 1, none⟩ = some (.bool fl) ∧ W.cell? ⟨(w.heap.size + 1), 0, none⟩ = some (.int .i64 n.k) ∧ W.cell? ⟨(w.heap.size + 1), 1, none⟩ = some (.int .i64 n.op) ∧ W.cell? ⟨(w.heap.size + 1), 2, none⟩ = some (.string n.s) ∧ W.cell? ⟨(w.heap.size + 1), 3, none⟩ = some (.string n.t) ∧ W.cell? ⟨(w.heap.size + 1), 4, none⟩ = some (.slice (some ⟨bk, ok, none⟩) n.kids.length ck) ∧ W.cell? ⟨(w.heap.size + 1 + 1), 0, none⟩ = some (.int .i64 p.l) ∧ W.cell? ⟨(w.heap.size + 1 + 1), 1, none⟩ = some (.bool p.d) ∧ W.cell? ⟨(w.heap.size + 1 + 1), 2, none⟩ = some (.bool p.i) ∧ W.cell? ⟨(w.heap.size + 1 + 1), 3, none⟩ = some (.bool p.g) ∧ W.cell? ⟨(w.heap.size + 1 + 1), 4, none⟩ = some (.bool p.s) ∧ W.cell? ⟨bk, ok, none⟩ = some (.int .i64 (kd n 0 : Int)) ∧ W.cell? ⟨bk, ok + 1, none⟩ = some (.int .i64 (kd n 1 : Int)) ∧ W.cell? ⟨bk, ok + 2, none⟩ = some (.int .i64 (kd n 2 : Int)))
    (first | (with_reducible exact YB5.out) | (with_reducible exact HY.out _ BP5.out) | (with_reducible exact HY.out _ (al BP5.out _)) | (with_reducible exact HY.out _ BN5.out) | (with_reducible exact HY.out _ (al BN5.out _)) | (with_reducible exact HY.out _ BA5.out))
    (first | (go_at_call 56; refine (HKP2.out _).mono ?_; rintro e wP5 ⟨rfl, bP5⟩; have BP5 := Lib.hid (nx BR4.out (undrew bP5))) | (go_at_call 20; refine (HE2.out (kp n 2 p) HQ2.out _ (by first | with_reducible exact HL.out.on BP5.out (Nat.le_refl _) | with_reducible exact HL.out.on (al BP5.out _) (Nat.le_refl _))).mono ?_; rintro e wN5 ⟨vN5, rfl, bN5, oN5⟩; have BN5 := Lib.hid (show Below W0.heap.size W0 wN5 from by first | with_reducible exact nx BP5.out bN5 | with_reducible exact nx (al BP5.out _) bN5); have ON5 := Lib.hid (show own.Own W0.heap.size vN5 (E (kd n 2) (kp n 2 p)) wN5 from by first | with_reducible exact oN5.up BP5.out.size | with_reducible exact oN5.up (al BP5.out _).size)) | (refine step_toks (by rfl) _ _ (by rfl) W0.heap.size _ ((((E (kd n 0) (kp n 0 p)) ++ [tok 65]) ++ E (kd n 1) (kp n 1 p)) ++ [tok 66]) (by rfl) ((OR4.out.keep (undrew bP5) (Nat.le_refl _)).keep bN5 (Nat.le_refl _)) W0.heap.size vN5 (E (kd n 2) (kp n 2 p)) (by rfl) ON5.out HLN4.out (by first | with_reducible exact BN5.out.size | with_reducible exact (al BN5.out _).size) ?_; intro vA5 wA5 oA5 bA5 gA5; have BA5 := Lib.hid (show Below W0.heap.size W0 wA5 from by first | with_reducible exact BN5.out.trans bA5 | with_reducible exact (al BN5.out _).trans bA5); have OA5 := Lib.hid oA5; clear oA5 bA5 gA5))
  go_wp2
  go_ret
  exact ⟨vA5, rfl, HW0.out.trans (BA5.out.mono HW0.out.size), OA5.out.up HW0.out.size⟩

set_option maxHeartbeats 3200000 in
theorem sides_bin {l : List Nd} {a : Option Addr} {m cap : Nat} {fl : Bool} {i : Nat} {E U : Nat → Ps → List Tk} (n : Nd) (ak : Option Addr) (ck : Nat) (p : Ps) (w : World) (hc : n.k = 12) (hL : nd.Lies w.heap.size w a l) (hi : Ints w.heap.size w ak n.kids) (hG : Gis l a m cap fl i n p E U) :
    Calls Tryz.prog 58 #[.agg #[.slice a m cap, .bool fl], .agg #[.int .i64 n.k, .int .i64 n.op, .string n.s, .string n.t, .slice ak n.kids.length ck], .agg #[.int .i64 p.l, .bool p.d, .bool p.i, .bool p.g, .bool p.s]] w (Out (body E U n p) w) := by
  have hlen : n.kids.length = 2 := hG.good.two (.inl hc)
  have hk0 : 0 < n.kids.length := by have := hlen; omega
  obtain ⟨bk, ok, hak, hbk, hkc0⟩ := kidc hi (Below.refl _ _) hk0 (hG.kd hk0)
  have hk1 : 1 < n.kids.length := by have := hlen; omega
  obtain ⟨bk', ok', hak', hbk', hkc1⟩ := kidc hi (Below.refl _ _) hk1 (hG.kd hk1)
  obtain ⟨rfl, rfl⟩ : bk = bk' ∧ ok = ok' := by rw [hak] at hak'; injection hak' with h1; injection h1 with h1 h2 h3; exact ⟨h1, h2⟩
  clear hak' hbk'
  subst hak
  rw [Nat.add_zero] at hkc0
  have HKP0 := Lib.hid (hG.kpos hk0 0 rfl (some ⟨bk, ok, none⟩) ck)
  have HE0 := Lib.hid (hG.e 0 hk0)
  have HQ0 := Lib.hid (show posOk (kp n 0 p).l (kp n 0 p).d = true from hG.q hk0)
  have hle0 := hG.le 0 hk0 (kp n 0 p)
  have HKP1 := Lib.hid (hG.kpos hk1 1 rfl (some ⟨bk, ok, none⟩) ck)
  have HE1 := Lib.hid (hG.e 1 hk1)
  have HQ1 := Lib.hid (show posOk (kp n 1 p).l (kp n 1 p).d = true from hG.q hk1)
  have hle1 := hG.le 1 hk1 (kp n 1 p)
  have hkz : (0 : Int) ≤ (n.kids.length : Int) := by omega
  have hkn : (0 : Int) < (n.kids.length : Int) := by omega
  have hkb : (n.kids.length : Int) ≤ 1048576 := by have := hG.len; omega
  have hkn1 : (1 : Int) < (n.kids.length : Int) := by omega
  obtain ⟨hh0, hh1, hh2, hw0, hs0⟩ := three w (.cells #[.slice a m cap, .bool fl] 48) (.cells #[.int .i64 n.k, .int .i64 n.op, .string n.s, .string n.t, .slice (some ⟨bk, ok, none⟩) n.kids.length ck] 45) (.cells #[.int .i64 p.l, .bool p.d, .bool p.i, .bool p.g, .bool p.s] 30)
  have HY := Lib.hid (show ∀ W, Below (((w.alloc (.cells #[.slice a m cap, .bool fl] 48)).alloc (.cells #[.int .i64 n.k, .int .i64 n.op, .string n.s, .string n.t, .slice (some ⟨bk, ok, none⟩) n.kids.length ck] 45)).alloc (.cells #[.int .i64 p.l, .bool p.d, .bool p.i, .bool p.g, .bool p.s] 30)).heap.size (((w.alloc (.cells #[.slice a m cap, .bool fl] 48)).alloc (.cells #[.int .i64 n.k, .int .i64 n.op, .string n.s, .string n.t, .slice (some ⟨bk, ok, none⟩) n.kids.length ck] 45)).alloc (.cells #[.int .i64 p.l, .bool p.d, .bool p.i, .bool p.g, .bool p.s] 30)) W → W.cell? ⟨w.heap.size, 0, none⟩ = some (.slice a m cap) ∧ W.cell? ⟨w.heap.size, 1, none⟩ = some (.bool fl) ∧ W.cell? ⟨(w.heap.size + 1), 0, none⟩ = some (.int .i64 n.k) ∧ W.cell? ⟨(w.heap.size + 1), 1, none⟩ = some (.int .i64 n.op) ∧ W.cell? ⟨(w.heap.size + 1), 2, none⟩ = some (.string n.s) ∧ W.cell? ⟨(w.heap.size + 1), 3, none⟩ = some (.string n.t) ∧ W.cell? ⟨(w.heap.size + 1), 4, none⟩ = some (.slice (some ⟨bk, ok, none⟩) n.kids.length ck) ∧ W.cell? ⟨(w.heap.size + 1 + 1), 0, none⟩ = some (.int .i64 p.l) ∧ W.cell? ⟨(w.heap.size + 1 + 1), 1, none⟩ = some (.bool p.d) ∧ W.cell? ⟨(w.heap.size + 1 + 1), 2, none⟩ = some (.bool p.i) ∧ W.cell? ⟨(w.heap.size + 1 + 1), 3, none⟩ = some (.bool p.g) ∧ W.cell? ⟨(w.heap.size + 1 + 1), 4, none⟩ = some (.bool p.s) ∧ W.cell? ⟨bk, ok, none⟩ = some (.int .i64 (kd n 0 : Int)) ∧ W.cell? ⟨bk, ok + 1, none⟩ = some (.int .i64 (kd n 1 : Int)) from fun W hb => by
    have hh0 := (hb.block w.heap.size (by omega)).trans hh0
    have hh1 := (hb.block (w.heap.size + 1) (by omega)).trans hh1
    have hh2 := (hb.block (w.heap.size + 1 + 1) (by omega)).trans hh2
    have hkc0 := (hb.cell (p := ⟨bk, ok, none⟩) (show bk < _ by omega)).trans ((hw0.cell (p := ⟨bk, ok, none⟩) hbk).trans hkc0)
    have hkc1 := (hb.cell (p := ⟨bk, ok + 1, none⟩) (show bk < _ by omega)).trans ((hw0.cell (p := ⟨bk, ok + 1, none⟩) hbk).trans hkc1)
    exact ⟨by rw [cell_of_row _ _ 0 _ _ _ (hh0)]; rfl, by rw [cell_of_row _ _ 1 _ _ _ (hh0)]; rfl, by rw [cell_of_row _ _ 0 _ _ _ (hh1)]; rfl, by rw [cell_of_row _ _ 1 _ _ _ (hh1)]; rfl, by rw [cell_of_row _ _ 2 _ _ _ (hh1)]; rfl, by rw [cell_of_row _ _ 3 _ _ _ (hh1)]; rfl, by rw [cell_of_row _ _ 4 _ _ _ (hh1)]; rfl, by rw [cell_of_row _ _ 0 _ _ _ (hh2)]; rfl, by rw [cell_of_row _ _ 1 _ _ _ (hh2)]; rfl, by rw [cell_of_row _ _ 2 _ _ _ (hh2)]; rfl, by rw [cell_of_row _ _ 3 _ _ _ (hh2)]; rfl, by rw [cell_of_row _ _ 4 _ _ _ (hh2)]; rfl, hkc0, hkc1⟩)
  have HW0 := Lib.hid hw0
  have HL := Lib.hid (hL.on hw0 (Nat.le_refl _))
  obtain ⟨e14, e14'⟩ := rt.ne_facts (show ¬ n.k = 14 by omega)
  by_cases h99 : n.op = 99
  · have HBODY : body E U n p = E (kd n 0) (kp n 0 p) ++ E (kd n 1) (kp n 1 p) := by rw [body_12 hc, if_pos h99]; rfl
    rw [HBODY]
    obtain ⟨e99, e99'⟩ := rt.eq_facts h99
    have HLN1 := Lib.hid (show (E (kd n 0) (kp n 0 p)).length + (E (kd n 1) (kp n 1 p)).length ≤ 1048576 by (try simp only [List.length_append, List.length_cons, List.length_nil]); omega)
    clear h99
    obtain ⟨W0, hW⟩ : ∃ W, W = (((w.alloc (.cells #[.slice a m cap, .bool fl] 48)).alloc (.cells #[.int .i64 n.k, .int .i64 n.op, .string n.s, .string n.t, .slice (some ⟨bk, ok, none⟩) n.kids.length ck] 45)).alloc (.cells #[.int .i64 p.l, .bool p.d, .bool p.i, .bool p.g, .bool p.s] 30)) := ⟨_, rfl⟩
    clear hL hi hG hc hh0 hh1 hh2 hw0 hs0 hkc0 hkc1 hle0 hle1 hlen
    go_enter Tryz.func58, Tryz.ntmps58
    go_wp2_with fail
    rw [← hW] at HW0 HL HY ⊢
    clear hW
    have B0 := Lib.hid (Below.refl W0.heap.size W0)
    have YB1 := Lib.hid (HY.out _ (dr B0.out))
    go_region_held3 (fun W => W.cell? ⟨w.heap.size, 0, none⟩ = some (.slice a m cap) ∧ W.cell? ⟨w.heap.size, 1, none⟩ = some (.bool fl) ∧ W.cell? ⟨(w.heap.size + 1), 0, none⟩ = some (.int .i64 n.k) ∧ W.cell? ⟨(w.heap.size + 1), 1, none⟩ = some (.int .i64 n.op) ∧ W.cell? ⟨(w.heap.size + 1), 2, none⟩ = some (.string n.s) ∧ W.cell? ⟨(w.heap.size + 1), 3, none⟩ = some (.string n.t) ∧ W.cell? ⟨(w.heap.size + 1), 4, none⟩ = some (.slice (some ⟨bk, ok, none⟩) n.kids.length ck) ∧ W.cell? ⟨(w.heap.size + 1 + 1), 0, none⟩ = some (.int .i64 p.l) ∧ W.cell? ⟨(w.heap.size + 1 + 1), 1, none⟩ = some (.bool p.d) ∧ W.cell? ⟨(w.heap.size + 1 + 1), 2, none⟩ = some (.bool p.i) ∧ W.cell? ⟨(w.heap.size + 1 + 1), 3, none⟩ = some (.bool p.g) ∧ W.cell? ⟨(w.heap.size + 1 + 1), 4, none⟩ = some (.bool p.s) ∧ W.cell? ⟨bk, ok, none⟩ = some (.int .i64 (kd n 0 : Int)) ∧ W.cell? ⟨bk, ok + 1, none⟩ = some (.int .i64 (kd n 1 : Int)))
      (first | (with_reducible exact YB1.out) | (with_reducible exact HY.out _ BP1.out) | (with_reducible exact HY.out _ (al BP1.out _)) | (with_reducible exact HY.out _ BN1.out) | (with_reducible exact HY.out _ (al BN1.out _)) | (with_reducible exact HY.out _ BN1.out))
      (first | (go_at_call 56; refine (HKP0.out _).mono ?_; rintro e wP1 ⟨rfl, bP1⟩; have BP1 := Lib.hid (nx B0.out (undrew bP1))) | (go_at_call 20; refine (HE0.out (kp n 0 p) HQ0.out _ (by first | with_reducible exact HL.out.on BP1.out (Nat.le_refl _) | with_reducible exact HL.out.on (al BP1.out _) (Nat.le_refl _))).mono ?_; rintro e wN1 ⟨vN1, rfl, bN1, oN1⟩; have BN1 := Lib.hid (show Below W0.heap.size W0 wN1 from by first | with_reducible exact nx BP1.out bN1 | with_reducible exact nx (al BP1.out _) bN1); have ON1 := Lib.hid (show own.Own W0.heap.size vN1 (E (kd n 0) (kp n 0 p)) wN1 from by first | with_reducible exact oN1.up BP1.out.size | with_reducible exact oN1.up (al BP1.out _).size)))
    obtain ⟨f0, f1, f2, f3, f4, f5, f6, f7, f8, f9, f10, f11, f12, f13⟩ := HY.out _ BN1.out
    go_wp2_with fail
    clear f0 f1 f2 f3 f4 f5 f6 f7 f8 f9 f10 f11 f12 f13
    have YB2 := Lib.hid (HY.out _ (dr BN1.out))
    go_region_held3 (fun W => W.cell? ⟨w.heap.size, 0, none⟩ = some (.slice a m cap) ∧ W.cell? ⟨w.heap.size, 1, none⟩ = some (.bool fl) ∧ W.cell? ⟨(w.heap.size + 1), 0, none⟩ = some (.int .i64 n.k) ∧ W.cell? ⟨(w.heap.size + 1), 1, none⟩ = some (.int .i64 n.op) ∧ W.cell? ⟨(w.heap.size + 1), 2, none⟩ = some (.string n.s) ∧ W.cell? ⟨(w.heap.size + 1), 3, none⟩ = some (.string n.t) ∧ W.cell? ⟨(w.heap.size + 1), 4, none⟩ = some (.slice (some ⟨bk, ok, none⟩) n.kids.length ck) ∧ W.cell? ⟨(w.heap.size + 1 + 1), 0, none⟩ = some (.int .i64 p.l) ∧ W.cell? ⟨(w.heap.size + 1 + 1), 1, none⟩ = some (.bool p.d) ∧ W.cell? ⟨(w.heap.size + 1 + 1), 2, none⟩ = some (.bool p.i) ∧ W.cell? ⟨(w.heap.size + 1 + 1), 3, none⟩ = some (.bool p.g) ∧ W.cell? ⟨(w.heap.size + 1 + 1), 4, none⟩ = some (.bool p.s) ∧ W.cell? ⟨bk, ok, none⟩ = some (.int .i64 (kd n 0 : Int)) ∧ W.cell? ⟨bk, ok + 1, none⟩ = some (.int .i64 (kd n 1 : Int)))
      (first | (with_reducible exact YB2.out) | (with_reducible exact HY.out _ BP2.out) | (with_reducible exact HY.out _ (al BP2.out _)) | (with_reducible exact HY.out _ BN2.out) | (with_reducible exact HY.out _ (al BN2.out _)) | (with_reducible exact HY.out _ BA2.out))
      (first | (go_at_call 56; refine (HKP1.out _).mono ?_; rintro e wP2 ⟨rfl, bP2⟩; have BP2 := Lib.hid (nx BN1.out (undrew bP2))) | (go_at_call 20; refine (HE1.out (kp n 1 p) HQ1.out _ (by first | with_reducible exact HL.out.on BP2.out (Nat.le_refl _) | with_reducible exact HL.out.on (al BP2.out _) (Nat.le_refl _))).mono ?_; rintro e wN2 ⟨vN2, rfl, bN2, oN2⟩; have BN2 := Lib.hid (show Below W0.heap.size W0 wN2 from by first | with_reducible exact nx BP2.out bN2 | with_reducible exact nx (al BP2.out _) bN2); have ON2 := Lib.hid (show own.Own W0.heap.size vN2 (E (kd n 1) (kp n 1 p)) wN2 from by first | with_reducible exact oN2.up BP2.out.size | with_reducible exact oN2.up (al BP2.out _).size)) | (refine step_toks (by rfl) _ _ (by rfl) W0.heap.size _ (E (kd n 0) (kp n 0 p)) (by rfl) ((ON1.out.keep (undrew bP2) (Nat.le_refl _)).keep bN2 (Nat.le_refl _)) W0.heap.size vN2 (E (kd n 1) (kp n 1 p)) (by rfl) ON2.out HLN1.out (by first | with_reducible exact BN2.out.size | with_reducible exact (al BN2.out _).size) ?_; intro vA2 wA2 oA2 bA2 gA2; have BA2 := Lib.hid (show Below W0.heap.size W0 wA2 from by first | with_reducible exact BN2.out.trans bA2 | with_reducible exact (al BN2.out _).trans bA2); have OA2 := Lib.hid oA2; clear oA2 bA2 gA2))
    go_wp2
    go_ret
    exact ⟨vA2, rfl, HW0.out.trans (BA2.out.mono HW0.out.size), OA2.out.up HW0.out.size⟩
  · have HBODY : body E U n p = (E (kd n 0) (kp n 0 p) ++ [tok n.op]) ++ E (kd n 1) (kp n 1 p) := by rw [body_12 hc, if_neg h99, List.append_assoc]
    rw [HBODY]
    obtain ⟨e99, e99'⟩ := rt.ne_facts h99
    have HLN1 := Lib.hid (show (E (kd n 0) (kp n 0 p)).length + ([tok n.op]).length ≤ 1048576 by (try simp only [List.length_append, List.length_cons, List.length_nil]); omega)
    have HLN2 := Lib.hid (show ((E (kd n 0) (kp n 0 p)) ++ [tok n.op]).length + (E (kd n 1) (kp n 1 p)).length ≤ 1048576 by (try simp only [List.length_append, List.length_cons, List.length_nil]); omega)
    clear h99
    obtain ⟨W0, hW⟩ : ∃ W, W = (((w.alloc (.cells #[.slice a m cap, .bool fl] 48)).alloc (.cells #[.int .i64 n.k, .int .i64 n.op, .string n.s, .string n.t, .slice (some ⟨bk, ok, none⟩) n.kids.length ck] 45)).alloc (.cells #[.int .i64 p.l, .bool p.d, .bool p.i, .bool p.g, .bool p.s] 30)) := ⟨_, rfl⟩
    clear hL hi hG hc hh0 hh1 hh2 hw0 hs0 hkc0 hkc1 hle0 hle1 hlen
    go_enter Tryz.func58, Tryz.ntmps58
    go_wp2_with fail
    rw [← hW] at HW0 HL HY ⊢
    clear hW
    have B0 := Lib.hid (Below.refl W0.heap.size W0)
    have YB1 := Lib.hid (HY.out _ (dr B0.out))
    go_region_held3 (fun W => W.cell? ⟨w.heap.size, 0, none⟩ = some (.slice a m cap) ∧ W.cell? ⟨w.heap.size, 1, none⟩ = some (.bool fl) ∧ W.cell? ⟨(w.heap.size + 1), 0, none⟩ = some (.int .i64 n.k) ∧ W.cell? ⟨(w.heap.size + 1), 1, none⟩ = some (.int .i64 n.op) ∧ W.cell? ⟨(w.heap.size + 1), 2, none⟩ = some (.string n.s) ∧ W.cell? ⟨(w.heap.size + 1), 3, none⟩ = some (.string n.t) ∧ W.cell? ⟨(w.heap.size + 1), 4, none⟩ = some (.slice (some ⟨bk, ok, none⟩) n.kids.length ck) ∧ W.cell? ⟨(w.heap.size + 1 + 1), 0, none⟩ = some (.int .i64 p.l) ∧ W.cell? ⟨(w.heap.size + 1 + 1), 1, none⟩ = some (.bool p.d) ∧ W.cell? ⟨(w.heap.size + 1 + 1), 2, none⟩ = some (.bool p.i) ∧ W.cell? ⟨(w.heap.size + 1 + 1), 3, none⟩ = some (.bool p.g) ∧ W.cell? ⟨(w.heap.size + 1 + 1), 4, none⟩ = some (.bool p.s) ∧ W.cell? ⟨bk, ok, none⟩ = some (.int .i64 (kd n 0 : Int)) ∧ W.cell? ⟨bk, ok + 1, none⟩ = some (.int .i64 (kd n 1 : Int)))
      (first | (with_reducible exact YB1.out) | (with_reducible exact HY.out _ BP1.out) | (with_reducible exact HY.out _ (al BP1.out _)) | (with_reducible exact HY.out _ BN1.out) | (with_reducible exact HY.out _ (al BN1.out _)) | (with_reducible exact HY.out _ BN1.out))
      (first | (go_at_call 56; refine (HKP0.out _).mono ?_; rintro e wP1 ⟨rfl, bP1⟩; have BP1 := Lib.hid (nx B0.out (undrew bP1))) | (go_at_call 20; refine (HE0.out (kp n 0 p) HQ0.out _ (by first | with_reducible exact HL.out.on BP1.out (Nat.le_refl _) | with_reducible exact HL.out.on (al BP1.out _) (Nat.le_refl _))).mono ?_; rintro e wN1 ⟨vN1, rfl, bN1, oN1⟩; have BN1 := Lib.hid (show Below W0.heap.size W0 wN1 from by first | with_reducible exact nx BP1.out bN1 | with_reducible exact nx (al BP1.out _) bN1); have ON1 := Lib.hid (show own.Own W0.heap.size vN1 (E (kd n 0) (kp n 0 p)) wN1 from by first | with_reducible exact oN1.up BP1.out.size | with_reducible exact oN1.up (al BP1.out _).size)))
    obtain ⟨f0, f1, f2, f3, f4, f5, f6, f7, f8, f9, f10, f11, f12, f13⟩ := HY.out _ BN1.out
    go_wp2_with (first | (go_at_call 40; refine (spec_tok n.op _).mono ?_; rintro e wS2 ⟨rfl, bS2⟩; have BS2 := Lib.hid (nx BN1.out bS2); have OS2 := Lib.hid (ON1.out.keep bS2 (Nat.le_refl _)); clear bS2 f0 f1 f2 f3 f4 f5 f6 f7 f8 f9 f10 f11 f12 f13) | (at_builtin; refine wpList_toks (by rfl) _ _ (by rfl) W0.heap.size _ (E (kd n 0) (kp n 0 p)) (by rfl) (OS2.out.keep ((Below.refl _ _).alloc (Nat.le_refl _) _) (Nat.le_refl _)) W0.heap.size _ [tok n.op] (by rfl) (lit1 wS2 (tok n.op) BS2.out.size) HLN1.out (al BS2.out _).size ?_; intro vR2 wR2 oR2 bR2 gR2; have BR2 := Lib.hid ((al BS2.out _).trans bR2); have OR2 := Lib.hid oR2; clear oR2 bR2 gR2))
    have YB3 := Lib.hid (HY.out _ (dr BR2.out))
    go_region_held3 (fun W => W.cell? ⟨w.heap.size, 0, none⟩ = some (.slice a m cap) ∧ W.cell? ⟨w.heap.size, 1, none⟩ = some (.bool fl) ∧ W.cell? ⟨(w.heap.size + 1), 0, none⟩ = some (.int .i64 n.k) ∧ W.cell? ⟨(w.heap.size + 1), 1, none⟩ = some (.int .i64 n.op) ∧ W.cell? ⟨(w.heap.size + 1), 2, none⟩ = some (.string n.s) ∧ W.cell? ⟨(w.heap.size + 1), 3, none⟩ = some (.string n.t) ∧ W.cell? ⟨(w.heap.size + 1), 4, none⟩ = some (.slice (some ⟨bk, ok, none⟩) n.kids.length ck) ∧ W.cell? ⟨(w.heap.size + 1 + 1), 0, none⟩ = some (.int .i64 p.l) ∧ W.cell? ⟨(w.heap.size + 1 + 1), 1, none⟩ = some (.bool p.d) ∧ W.cell? ⟨(w.heap.size + 1 + 1), 2, none⟩ = some (.bool p.i) ∧ W.cell? ⟨(w.heap.size + 1 + 1), 3, none⟩ = some (.bool p.g) ∧ W.cell? ⟨(w.heap.size + 1 + 1), 4, none⟩ = some (.bool p.s) ∧ W.cell? ⟨bk, ok, none⟩ = some (.int .i64 (kd n 0 : Int)) ∧ W.cell? ⟨bk, ok + 1, none⟩ = some (.int .i64 (kd n 1 : Int)))
      (first | (with_reducible exact YB3.out) | (with_reducible exact HY.out _ BP3.out) | (with_reducible exact HY.out _ (al BP3.out _)) | (with_reducible exact HY.out _ BN3.out) | (with_reducible exact HY.out _ (al BN3.out _)) | (with_reducible exact HY.out _ BA3.out))
      (first | (go_at_call 56; refine (HKP1.out _).mono ?_; rintro e wP3 ⟨rfl, bP3⟩; have BP3 := Lib.hid (nx BR2.out (undrew bP3))) | (go_at_call 20; refine (HE1.out (kp n 1 p) HQ1.out _ (by first | with_reducible exact HL.out.on BP3.out (Nat.le_refl _) | with_reducible exact HL.out.on (al BP3.out _) (Nat.le_refl _))).mono ?_; rintro e wN3 ⟨vN3, rfl, bN3, oN3⟩; have BN3 := Lib.hid (show Below W0.heap.size W0 wN3 from by first | with_reducible exact nx BP3.out bN3 | with_reducible exact nx (al BP3.out _) bN3); have ON3 := Lib.hid (show own.Own W0.heap.size vN3 (E (kd n 1) (kp n 1 p)) wN3 from by first | with_reducible exact oN3.up BP3.out.size | with_reducible exact oN3.up (al BP3.out _).size)) | (refine step_toks (by rfl) _ _ (by rfl) W0.heap.size _ ((E (kd n 0) (kp n 0 p)) ++ [tok n.op]) (by rfl) ((OR2.out.keep (undrew bP3) (Nat.le_refl _)).keep bN3 (Nat.le_refl _)) W0.heap.size vN3 (E (kd n 1) (kp n 1 p)) (by rfl) ON3.out HLN2.out (by first | with_reducible exact BN3.out.size | with_reducible exact (al BN3.out _).size) ?_; intro vA3 wA3 oA3 bA3 gA3; have BA3 := Lib.hid (show Below W0.heap.size W0 wA3 from by first | with_reducible exact BN3.out.trans bA3 | with_reducible exact (al BN3.out _).trans bA3); have OA3 := Lib.hid oA3; clear oA3 bA3 gA3))
    go_wp2
    go_ret
    exact ⟨vA3, rfl, HW0.out.trans (BA3.out.mono HW0.out.size), OA3.out.up HW0.out.size⟩
end Go.Proofs.YtdikohegclooiaaGreatDoor.st
