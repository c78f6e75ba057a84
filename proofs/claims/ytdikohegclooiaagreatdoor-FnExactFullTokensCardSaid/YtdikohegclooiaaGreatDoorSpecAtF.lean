/-
  spec.l10At as FullTokens has it: contract.
-/
import Derived.Test.YtdikohegclooiaaGreatDoorSpecAt
namespace Go.Proofs.YtdikohegclooiaaGreatDoor.st
open Go.ChangeShapes Go.WideShapes Go.ChangeAt Go.RowKit
open tk (Tk)
open nd (Nd Ints)
open ps (Ps posOk kidI top)
open spell (Held)
open et
set_option linter.unusedVariables false
set_option linter.unusedSimpArgs false
set_option maxRecDepth 20000

set_option maxHeartbeats 3200000 in
theorem at_full {l : List Nd} {a : Option Addr} {m cap : Nat} {U : Nat → Ps → List Tk} (i : Nat) (n : Nd) (hm : m = l.length) (hmx : m ≤ 1048576) (hi : i < m) (hn : l.getD i default = n) (hlen : ∀ q, (U i q).length ≤ 100000)
    (hN : CallS 38 l a m cap true i (U i)) : CallS 20 l a m cap true i (par full l U i) := by
  intro q hq w hc
  have hil : i < l.length := hm ▸ hi
  rw [getD_at hil] at hn
  have hc1 := hc
  obtain ⟨bl, ol, rfl, hbl, hnode⟩ := nd.lies_at hc hil
  obtain ⟨ak, ck, h5, hik⟩ := hnode i hil
  rw [hn] at h5
  have hpar : par full l U i q = if full n q = true then tok 32 :: (U i top ++ [tok 33]) else U i q := by unfold par; rw [getD_at hil, hn]
  rw [hpar]
  have hW0 : Below w.heap.size w ((w.alloc (.cells #[.slice (some ⟨bl, ol, none⟩) m cap, .bool true] 48)).alloc (.cells #[.int .i64 q.l, .bool q.d, .bool q.i, .bool q.g, .bool q.s] 30)) := ((Below.refl _ _).alloc (Nat.le_refl _) _).alloc (by simp) _
  have hz : ∀ W, Below ((w.alloc (.cells #[.slice (some ⟨bl, ol, none⟩) m cap, .bool true] 48)).alloc (.cells #[.int .i64 q.l, .bool q.d, .bool q.i, .bool q.g, .bool q.s] 30)).heap.size ((w.alloc (.cells #[.slice (some ⟨bl, ol, none⟩) m cap, .bool true] 48)).alloc (.cells #[.int .i64 q.l, .bool q.d, .bool q.i, .bool q.g, .bool q.s] 30)) W → W.cell? ⟨w.heap.size, 0, none⟩ = some (.slice (some ⟨bl, ol, none⟩) m cap) ∧ W.cell? ⟨w.heap.size, 1, none⟩ = some (.bool true) ∧ W.cell? ⟨(w.heap.size + 1), 0, none⟩ = some (.int .i64 q.l) ∧ W.cell? ⟨(w.heap.size + 1), 1, none⟩ = some (.bool q.d) ∧ W.cell? ⟨(w.heap.size + 1), 2, none⟩ = some (.bool q.i) ∧ W.cell? ⟨(w.heap.size + 1), 3, none⟩ = some (.bool q.g) ∧ W.cell? ⟨(w.heap.size + 1), 4, none⟩ = some (.bool q.s) ∧ W.cell? ⟨bl, ol + i * 5, none⟩ = some (.int .i64 n.k) ∧ W.cell? ⟨bl, ol + i * 5 + 1, none⟩ = some (.int .i64 n.op) ∧ W.cell? ⟨bl, ol + i * 5 + 2, none⟩ = some (.string n.s) ∧ W.cell? ⟨bl, ol + i * 5 + 3, none⟩ = some (.string n.t) ∧ W.cell? ⟨bl, ol + i * 5 + 4, none⟩ = some (.slice ak n.kids.length ck) := fun W hb => by
    have hlt : w.heap.size + 1 < ((w.alloc (.cells #[.slice (some ⟨bl, ol, none⟩) m cap, .bool true] 48)).alloc (.cells #[.int .i64 q.l, .bool q.d, .bool q.i, .bool q.g, .bool q.s] 30)).heap.size := by simp
    have h6 := (h5.keep hW0 hbl).keep hb (by omega)
    obtain ⟨y0, y1, y2, y3, y4⟩ := h6
    have ha := (hb.block w.heap.size (by omega)).trans ((Below.heap_alloc _ _ _ (by simp)).trans (heap_alloc_new w (.cells #[.slice (some ⟨bl, ol, none⟩) m cap, .bool true] 48)))
    have hp := heap_alloc_new (w.alloc (.cells #[.slice (some ⟨bl, ol, none⟩) m cap, .bool true] 48)) (.cells #[.int .i64 q.l, .bool q.d, .bool q.i, .bool q.g, .bool q.s] 30)
    rw [show ∀ o, (w.alloc o).heap.size = w.heap.size + 1 from fun o => by simp] at hp
    have hb2 := (hb.block (w.heap.size + 1) (by omega)).trans hp
    exact ⟨by rw [cell_of_row _ _ 0 _ _ _ ha]; rfl, by rw [cell_of_row _ _ 1 _ _ _ ha]; rfl, by rw [cell_of_row _ _ 0 _ _ _ hb2]; rfl, by rw [cell_of_row _ _ 1 _ _ _ hb2]; rfl, by rw [cell_of_row _ _ 2 _ _ _ hb2]; rfl, by rw [cell_of_row _ _ 3 _ _ _ hb2]; rfl, by rw [cell_of_row _ _ 4 _ _ _ hb2]; rfl, y0, y1, y2, y3, y4⟩
  have HZ := Lib.hid hz
  have HW0 := Lib.hid hW0
  have HL := Lib.hid (hc1.on hW0 (Nat.le_refl _))
  have HN := Lib.hid hN
  have HQ := Lib.hid hq
  have HLN := Lib.hid (show ([tok 32] : List Tk).length + (U i top).length ≤ 1048576 by have := hlen top; simp only [List.length_cons, List.length_nil]; omega)
  have HLN2 := Lib.hid (show ([tok 32] ++ U i top).length + ([tok 33] : List Tk).length ≤ 1048576 by have := hlen top; simp only [List.length_append, List.length_cons, List.length_nil]; omega)
  have hk1 : (0 : Int) ≤ (i : Int) := by omega
  have hk2 : (i : Int) < (m : Int) := by omega
  obtain ⟨C, hC⟩ : ∃ C, ps.fits n.k n.op q.l q.d q.i q.g q.s = C := ⟨_, rfl⟩
  have HC := Lib.hid hC
  obtain ⟨V, hV⟩ : ∃ V, lv.levelOf n.k n.op = V := ⟨_, rfl⟩
  have HV := Lib.hid hV
  by_cases h15 : V = 15
  · subst h15
    by_cases h4 : n.k = 4
    · have hf : full n q = true := by unfold full; rw [hV, h4]; rfl
      obtain ⟨e4, e4'⟩ := rt.eq_facts h4
      rw [hf]
      clear hlen hN hq hc hc1 hnode h5 hik hpar hW0 hz hm hi hn hil hbl hC hV hf h4
      show Calls _ _ _ _ (Out (tok 32 :: (U i top ++ [tok 33])) w)
      cases C
      · obtain ⟨W0, hW⟩ : ∃ W, W = ((w.alloc (.cells #[.slice (some ⟨bl, ol, none⟩) m cap, .bool true] 48)).alloc (.cells #[.int .i64 q.l, .bool q.d, .bool q.i, .bool q.g, .bool q.s] 30)) := ⟨_, rfl⟩
        go_enter Tryz.func20, Tryz.ntmps20
        go_wp2_with fail
        rw [← hW] at HZ HW0 HL ⊢
        clear hW
        have Y0 := Lib.hid (HZ.out _ (dr (Below.refl _ W0)))
        have hun : (undef : Value) = .tuple #[] := rfl
        obtain ⟨u0, u1, p0, p1, p2, p3, p4, n0, n1, n2, n3, n4⟩ := Y0.out
        first | (go_region_law (first | (go_simp; go_at_call 37; refine (ps.spec_fits n.k n.op q.l n.s n.t ak n.kids.length ck q.d q.i q.g q.s _).mono ?_; rw [HC.out]; rintro e w1 ⟨rfl, b1⟩; have B1 := Lib.hid (show Below W0.heap.size W0 w1 from undrew b1); have Y1 := Lib.hid (HZ.out w1 B1.out); clear b1; obtain ⟨u0, u1, p0, p1, p2, p3, p4, n0, n1, n2, n3, n4⟩ := Y1.out))) | fail "region 1"
        all_goals
          go_wp2_with (first | (go_at_call 39; refine (lv.spec_level n.k n.op n.s n.t ak n.kids.length ck _).mono ?_; rw [HV.out]; rintro e w2 ⟨rfl, b2⟩; have B2 := Lib.hid (nx B1.out b2); obtain ⟨u0, u1, p0, p1, p2, p3, p4, n0, n1, n2, n3, n4⟩ := HZ.out w2 B2.out; clear b2))
          clear u0 u1 p0 p1 p2 p3 p4 n0 n1 n2 n3 n4
          have YB := Lib.hid (HZ.out _ (dr B2.out))
          go_region_held3 (fun w' => w'.cell? ⟨w.heap.size, 0, none⟩ = some (.slice (some ⟨bl, ol, none⟩) m cap) ∧ w'.cell? ⟨w.heap.size, 1, none⟩ = some (.bool true) ∧ w'.cell? ⟨(w.heap.size + 1), 0, none⟩ = some (.int .i64 q.l) ∧ w'.cell? ⟨(w.heap.size + 1), 1, none⟩ = some (.bool q.d) ∧ w'.cell? ⟨(w.heap.size + 1), 2, none⟩ = some (.bool q.i) ∧ w'.cell? ⟨(w.heap.size + 1), 3, none⟩ = some (.bool q.g) ∧ w'.cell? ⟨(w.heap.size + 1), 4, none⟩ = some (.bool q.s) ∧ w'.cell? ⟨bl, ol + i * 5, none⟩ = some (.int .i64 n.k) ∧ w'.cell? ⟨bl, ol + i * 5 + 1, none⟩ = some (.int .i64 n.op) ∧ w'.cell? ⟨bl, ol + i * 5 + 2, none⟩ = some (.string n.s) ∧ w'.cell? ⟨bl, ol + i * 5 + 3, none⟩ = some (.string n.t) ∧ w'.cell? ⟨bl, ol + i * 5 + 4, none⟩ = some (.slice ak n.kids.length ck))
            (first | (with_reducible exact YB.out) | (with_reducible exact HZ.out _ BT.out) | (with_reducible exact HZ.out _ (al BT.out _)) | (with_reducible exact HZ.out _ BP.out) | (with_reducible exact HZ.out _ (al BP.out _)) | (with_reducible exact HZ.out _ BN.out) | (with_reducible exact HZ.out _ (al BN.out _)) | (with_reducible exact HZ.out _ BA.out))
            (first | (go_at_call 40; refine (spec_tok 32 _).mono ?_; rintro e wT ⟨rfl, bT⟩; have BT := Lib.hid (nx B2.out (undrew bT))) | (go_at_call 30; refine (ps.spec_top _).mono ?_; rintro e wP ⟨rfl, bP⟩; have BP := Lib.hid (show Below W0.heap.size W0 wP from by first | with_reducible exact nx BT.out bP | with_reducible exact nx (al BT.out _) bP)) | (go_at_call 38; refine (HN.out top top_ok _ (by first | with_reducible exact HL.out.on BP.out (Nat.le_refl _) | with_reducible exact HL.out.on (al BP.out _) (Nat.le_refl _))).mono ?_; rintro e wN ⟨vN, rfl, bN, oN⟩; have BN := Lib.hid (show Below W0.heap.size W0 wN from by first | with_reducible exact nx BP.out bN | with_reducible exact nx (al BP.out _) bN); have ON := Lib.hid (show own.Own W0.heap.size vN (U i top) wN from by first | with_reducible exact oN.up BP.out.size | with_reducible exact oN.up (al BP.out _).size)) | (refine step_toks (by rfl) _ _ (by rfl) W0.heap.size _ [tok 32] (by rfl) (by first | exact lit1 wN (tok 32) BN.out.size | exact (lit1 wP (tok 32) BP.out.size).keep bN (Nat.le_refl _) | exact ((lit1 wT (tok 32) BT.out.size).keep bP (Nat.le_refl _)).keep bN (Nat.le_refl _)) W0.heap.size vN (U i top) (by rfl) (by first | with_reducible exact ON.out | with_reducible exact ON.out.keep ((Below.refl _ _).alloc (Nat.le_refl _) _) (Nat.le_refl _)) HLN.out (by first | with_reducible exact BN.out.size | with_reducible exact (al BN.out _).size) ?_; intro vA wA oA bA gA; have BA := Lib.hid (show Below W0.heap.size W0 wA from by first | with_reducible exact BN.out.trans bA | with_reducible exact (al BN.out _).trans bA); have OA := Lib.hid oA; clear oA bA gA))
          all_goals
            go_wp2_with (first | (go_at_call 40; refine (spec_tok 33 _).mono ?_; rintro e wS ⟨rfl, bS⟩; have BS := Lib.hid (nx BA.out bS); have OS := Lib.hid (OA.out.keep bS (Nat.le_refl _)); clear bS) | (at_builtin; refine wpList_toks (by rfl) _ _ (by rfl) W0.heap.size _ ([tok 32] ++ U i top) (by rfl) (OS.out.keep ((Below.refl _ _).alloc (Nat.le_refl _) _) (Nat.le_refl _)) W0.heap.size _ [tok 33] (by rfl) (lit1 wS (tok 33) BS.out.size) HLN2.out (al BS.out _).size ?_; intro vR wR oR bR gR; have BR := Lib.hid ((al BS.out _).trans bR); have OR := Lib.hid oR; clear oR bR gR))
            go_ret
            exact ⟨vR, rfl, HW0.out.trans (BR.out.mono HW0.out.size), OR.out.up HW0.out.size⟩
      · obtain ⟨W0, hW⟩ : ∃ W, W = ((w.alloc (.cells #[.slice (some ⟨bl, ol, none⟩) m cap, .bool true] 48)).alloc (.cells #[.int .i64 q.l, .bool q.d, .bool q.i, .bool q.g, .bool q.s] 30)) := ⟨_, rfl⟩
        go_enter Tryz.func20, Tryz.ntmps20
        go_wp2_with fail
        rw [← hW] at HZ HW0 HL ⊢
        clear hW
        have Y0 := Lib.hid (HZ.out _ (dr (Below.refl _ W0)))
        go_region_held3 (fun w' => w'.cell? ⟨w.heap.size, 0, none⟩ = some (.slice (some ⟨bl, ol, none⟩) m cap) ∧ w'.cell? ⟨w.heap.size, 1, none⟩ = some (.bool true) ∧ w'.cell? ⟨(w.heap.size + 1), 0, none⟩ = some (.int .i64 q.l) ∧ w'.cell? ⟨(w.heap.size + 1), 1, none⟩ = some (.bool q.d) ∧ w'.cell? ⟨(w.heap.size + 1), 2, none⟩ = some (.bool q.i) ∧ w'.cell? ⟨(w.heap.size + 1), 3, none⟩ = some (.bool q.g) ∧ w'.cell? ⟨(w.heap.size + 1), 4, none⟩ = some (.bool q.s) ∧ w'.cell? ⟨bl, ol + i * 5, none⟩ = some (.int .i64 n.k) ∧ w'.cell? ⟨bl, ol + i * 5 + 1, none⟩ = some (.int .i64 n.op) ∧ w'.cell? ⟨bl, ol + i * 5 + 2, none⟩ = some (.string n.s) ∧ w'.cell? ⟨bl, ol + i * 5 + 3, none⟩ = some (.string n.t) ∧ w'.cell? ⟨bl, ol + i * 5 + 4, none⟩ = some (.slice ak n.kids.length ck))
          (first | with_reducible exact Y0.out | with_reducible exact Y1.out)
          (first | (go_at_call 37; refine (ps.spec_fits n.k n.op q.l n.s n.t ak n.kids.length ck q.d q.i q.g q.s _).mono ?_; rw [HC.out]; rintro e w1 ⟨rfl, b1⟩; have B1 := Lib.hid (show Below W0.heap.size W0 w1 from undrew b1); have Y1 := Lib.hid (HZ.out w1 B1.out); clear b1))
        obtain ⟨u0, u1, p0, p1, p2, p3, p4, n0, n1, n2, n3, n4⟩ := Y1.out
        go_wp2_with (first | (go_at_call 39; refine (lv.spec_level n.k n.op n.s n.t ak n.kids.length ck _).mono ?_; rw [HV.out]; rintro e w2 ⟨rfl, b2⟩; have B2 := Lib.hid (nx B1.out b2); obtain ⟨u0, u1, p0, p1, p2, p3, p4, n0, n1, n2, n3, n4⟩ := HZ.out w2 B2.out; clear b2))
        clear u0 u1 p0 p1 p2 p3 p4 n0 n1 n2 n3 n4
        have YB := Lib.hid (HZ.out _ (dr B2.out))
        go_region_held3 (fun w' => w'.cell? ⟨w.heap.size, 0, none⟩ = some (.slice (some ⟨bl, ol, none⟩) m cap) ∧ w'.cell? ⟨w.heap.size, 1, none⟩ = some (.bool true) ∧ w'.cell? ⟨(w.heap.size + 1), 0, none⟩ = some (.int .i64 q.l) ∧ w'.cell? ⟨(w.heap.size + 1), 1, none⟩ = some (.bool q.d) ∧ w'.cell? ⟨(w.heap.size + 1), 2, none⟩ = some (.bool q.i) ∧ w'.cell? ⟨(w.heap.size + 1), 3, none⟩ = some (.bool q.g) ∧ w'.cell? ⟨(w.heap.size + 1), 4, none⟩ = some (.bool q.s) ∧ w'.cell? ⟨bl, ol + i * 5, none⟩ = some (.int .i64 n.k) ∧ w'.cell? ⟨bl, ol + i * 5 + 1, none⟩ = some (.int .i64 n.op) ∧ w'.cell? ⟨bl, ol + i * 5 + 2, none⟩ = some (.string n.s) ∧ w'.cell? ⟨bl, ol + i * 5 + 3, none⟩ = some (.string n.t) ∧ w'.cell? ⟨bl, ol + i * 5 + 4, none⟩ = some (.slice ak n.kids.length ck))
          (first | (with_reducible exact YB.out) | (with_reducible exact HZ.out _ BT.out) | (with_reducible exact HZ.out _ (al BT.out _)) | (with_reducible exact HZ.out _ BP.out) | (with_reducible exact HZ.out _ (al BP.out _)) | (with_reducible exact HZ.out _ BN.out) | (with_reducible exact HZ.out _ (al BN.out _)) | (with_reducible exact HZ.out _ BA.out))
          (first | (go_at_call 40; refine (spec_tok 32 _).mono ?_; rintro e wT ⟨rfl, bT⟩; have BT := Lib.hid (nx B2.out (undrew bT))) | (go_at_call 30; refine (ps.spec_top _).mono ?_; rintro e wP ⟨rfl, bP⟩; have BP := Lib.hid (show Below W0.heap.size W0 wP from by first | with_reducible exact nx BT.out bP | with_reducible exact nx (al BT.out _) bP)) | (go_at_call 38; refine (HN.out top top_ok _ (by first | with_reducible exact HL.out.on BP.out (Nat.le_refl _) | with_reducible exact HL.out.on (al BP.out _) (Nat.le_refl _))).mono ?_; rintro e wN ⟨vN, rfl, bN, oN⟩; have BN := Lib.hid (show Below W0.heap.size W0 wN from by first | with_reducible exact nx BP.out bN | with_reducible exact nx (al BP.out _) bN); have ON := Lib.hid (show own.Own W0.heap.size vN (U i top) wN from by first | with_reducible exact oN.up BP.out.size | with_reducible exact oN.up (al BP.out _).size)) | (refine step_toks (by rfl) _ _ (by rfl) W0.heap.size _ [tok 32] (by rfl) (by first | exact lit1 wN (tok 32) BN.out.size | exact (lit1 wP (tok 32) BP.out.size).keep bN (Nat.le_refl _) | exact ((lit1 wT (tok 32) BT.out.size).keep bP (Nat.le_refl _)).keep bN (Nat.le_refl _)) W0.heap.size vN (U i top) (by rfl) (by first | with_reducible exact ON.out | with_reducible exact ON.out.keep ((Below.refl _ _).alloc (Nat.le_refl _) _) (Nat.le_refl _)) HLN.out (by first | with_reducible exact BN.out.size | with_reducible exact (al BN.out _).size) ?_; intro vA wA oA bA gA; have BA := Lib.hid (show Below W0.heap.size W0 wA from by first | with_reducible exact BN.out.trans bA | with_reducible exact (al BN.out _).trans bA); have OA := Lib.hid oA; clear oA bA gA))
        all_goals
          go_wp2_with (first | (go_at_call 40; refine (spec_tok 33 _).mono ?_; rintro e wS ⟨rfl, bS⟩; have BS := Lib.hid (nx BA.out bS); have OS := Lib.hid (OA.out.keep bS (Nat.le_refl _)); clear bS) | (at_builtin; refine wpList_toks (by rfl) _ _ (by rfl) W0.heap.size _ ([tok 32] ++ U i top) (by rfl) (OS.out.keep ((Below.refl _ _).alloc (Nat.le_refl _) _) (Nat.le_refl _)) W0.heap.size _ [tok 33] (by rfl) (lit1 wS (tok 33) BS.out.size) HLN2.out (al BS.out _).size ?_; intro vR wR oR bR gR; have BR := Lib.hid ((al BS.out _).trans bR); have OR := Lib.hid oR; clear oR bR gR))
          go_ret
          exact ⟨vR, rfl, HW0.out.trans (BR.out.mono HW0.out.size), OR.out.up HW0.out.size⟩
    · have hf : full n q = false := by unfold full; rw [hV]; simp [h4]
      obtain ⟨e4, e4'⟩ := rt.ne_facts h4
      rw [hf]
      clear hlen hN hq hc hc1 hnode h5 hik hpar hW0 hz hm hi hn hil hbl hC hV hf h4
      show Calls _ _ _ _ (Out (U i q) w)
      cases C
      · obtain ⟨W0, hW⟩ : ∃ W, W = ((w.alloc (.cells #[.slice (some ⟨bl, ol, none⟩) m cap, .bool true] 48)).alloc (.cells #[.int .i64 q.l, .bool q.d, .bool q.i, .bool q.g, .bool q.s] 30)) := ⟨_, rfl⟩
        go_enter Tryz.func20, Tryz.ntmps20
        go_wp2_with fail
        rw [← hW] at HZ HW0 HL ⊢
        clear hW
        have Y0 := Lib.hid (HZ.out _ (dr (Below.refl _ W0)))
        have hun : (undef : Value) = .tuple #[] := rfl
        obtain ⟨u0, u1, p0, p1, p2, p3, p4, n0, n1, n2, n3, n4⟩ := Y0.out
        first | (go_region_law (first | (go_simp; go_at_call 37; refine (ps.spec_fits n.k n.op q.l n.s n.t ak n.kids.length ck q.d q.i q.g q.s _).mono ?_; rw [HC.out]; rintro e w1 ⟨rfl, b1⟩; have B1 := Lib.hid (show Below W0.heap.size W0 w1 from undrew b1); have Y1 := Lib.hid (HZ.out w1 B1.out); clear b1; obtain ⟨u0, u1, p0, p1, p2, p3, p4, n0, n1, n2, n3, n4⟩ := Y1.out))) | fail "region 1"
        all_goals
          go_wp2_with (first | (go_at_call 39; refine (lv.spec_level n.k n.op n.s n.t ak n.kids.length ck _).mono ?_; rw [HV.out]; rintro e w2 ⟨rfl, b2⟩; have B2 := Lib.hid (nx B1.out b2); obtain ⟨u0, u1, p0, p1, p2, p3, p4, n0, n1, n2, n3, n4⟩ := HZ.out w2 B2.out; clear b2) | (go_at_call 38; refine (HN.out q HQ.out _ (HL.out.on B2.out (Nat.le_refl _))).mono ?_; rintro e w9 ⟨v9, rfl, b9, o9⟩; have B9 := Lib.hid (nx B2.out b9); have O9 := Lib.hid (o9.up B2.out.size); clear b9 o9))
          go_ret
          exact ⟨v9, rfl, HW0.out.trans (B9.out.mono HW0.out.size), O9.out.up HW0.out.size⟩
      · obtain ⟨W0, hW⟩ : ∃ W, W = ((w.alloc (.cells #[.slice (some ⟨bl, ol, none⟩) m cap, .bool true] 48)).alloc (.cells #[.int .i64 q.l, .bool q.d, .bool q.i, .bool q.g, .bool q.s] 30)) := ⟨_, rfl⟩
        go_enter Tryz.func20, Tryz.ntmps20
        go_wp2_with fail
        rw [← hW] at HZ HW0 HL ⊢
        clear hW
        have Y0 := Lib.hid (HZ.out _ (dr (Below.refl _ W0)))
        go_region_held3 (fun w' => w'.cell? ⟨w.heap.size, 0, none⟩ = some (.slice (some ⟨bl, ol, none⟩) m cap) ∧ w'.cell? ⟨w.heap.size, 1, none⟩ = some (.bool true) ∧ w'.cell? ⟨(w.heap.size + 1), 0, none⟩ = some (.int .i64 q.l) ∧ w'.cell? ⟨(w.heap.size + 1), 1, none⟩ = some (.bool q.d) ∧ w'.cell? ⟨(w.heap.size + 1), 2, none⟩ = some (.bool q.i) ∧ w'.cell? ⟨(w.heap.size + 1), 3, none⟩ = some (.bool q.g) ∧ w'.cell? ⟨(w.heap.size + 1), 4, none⟩ = some (.bool q.s) ∧ w'.cell? ⟨bl, ol + i * 5, none⟩ = some (.int .i64 n.k) ∧ w'.cell? ⟨bl, ol + i * 5 + 1, none⟩ = some (.int .i64 n.op) ∧ w'.cell? ⟨bl, ol + i * 5 + 2, none⟩ = some (.string n.s) ∧ w'.cell? ⟨bl, ol + i * 5 + 3, none⟩ = some (.string n.t) ∧ w'.cell? ⟨bl, ol + i * 5 + 4, none⟩ = some (.slice ak n.kids.length ck))
          (first | with_reducible exact Y0.out | with_reducible exact Y1.out)
          (first | (go_at_call 37; refine (ps.spec_fits n.k n.op q.l n.s n.t ak n.kids.length ck q.d q.i q.g q.s _).mono ?_; rw [HC.out]; rintro e w1 ⟨rfl, b1⟩; have B1 := Lib.hid (show Below W0.heap.size W0 w1 from undrew b1); have Y1 := Lib.hid (HZ.out w1 B1.out); clear b1))
        obtain ⟨u0, u1, p0, p1, p2, p3, p4, n0, n1, n2, n3, n4⟩ := Y1.out
        go_wp2_with (first | (go_at_call 39; refine (lv.spec_level n.k n.op n.s n.t ak n.kids.length ck _).mono ?_; rw [HV.out]; rintro e w2 ⟨rfl, b2⟩; have B2 := Lib.hid (nx B1.out b2); obtain ⟨u0, u1, p0, p1, p2, p3, p4, n0, n1, n2, n3, n4⟩ := HZ.out w2 B2.out; clear b2) | (go_at_call 38; refine (HN.out q HQ.out _ (HL.out.on B2.out (Nat.le_refl _))).mono ?_; rintro e w9 ⟨v9, rfl, b9, o9⟩; have B9 := Lib.hid (nx B2.out b9); have O9 := Lib.hid (o9.up B2.out.size); clear b9 o9))
        go_ret
        exact ⟨v9, rfl, HW0.out.trans (B9.out.mono HW0.out.size), O9.out.up HW0.out.size⟩
  · have hf : full n q = true := by unfold full; rw [hV]; simp [h15]
    obtain ⟨e15, e15'⟩ := rt.ne_facts h15
    rw [hf]
    clear hlen hN hq hc hc1 hnode h5 hik hpar hW0 hz hm hi hn hil hbl hC hV hf h15
    show Calls _ _ _ _ (Out (tok 32 :: (U i top ++ [tok 33])) w)
    cases C
    · obtain ⟨W0, hW⟩ : ∃ W, W = ((w.alloc (.cells #[.slice (some ⟨bl, ol, none⟩) m cap, .bool true] 48)).alloc (.cells #[.int .i64 q.l, .bool q.d, .bool q.i, .bool q.g, .bool q.s] 30)) := ⟨_, rfl⟩
      go_enter Tryz.func20, Tryz.ntmps20
      go_wp2_with fail
      rw [← hW] at HZ HW0 HL ⊢
      clear hW
      have Y0 := Lib.hid (HZ.out _ (dr (Below.refl _ W0)))
      have hun : (undef : Value) = .tuple #[] := rfl
      obtain ⟨u0, u1, p0, p1, p2, p3, p4, n0, n1, n2, n3, n4⟩ := Y0.out
      first | (go_region_law (first | (go_simp; go_at_call 37; refine (ps.spec_fits n.k n.op q.l n.s n.t ak n.kids.length ck q.d q.i q.g q.s _).mono ?_; rw [HC.out]; rintro e w1 ⟨rfl, b1⟩; have B1 := Lib.hid (show Below W0.heap.size W0 w1 from undrew b1); have Y1 := Lib.hid (HZ.out w1 B1.out); clear b1; obtain ⟨u0, u1, p0, p1, p2, p3, p4, n0, n1, n2, n3, n4⟩ := Y1.out))) | fail "region 1"
      all_goals
        go_wp2_with (first | (go_at_call 39; refine (lv.spec_level n.k n.op n.s n.t ak n.kids.length ck _).mono ?_; rw [HV.out]; rintro e w2 ⟨rfl, b2⟩; have B2 := Lib.hid (nx B1.out b2); obtain ⟨u0, u1, p0, p1, p2, p3, p4, n0, n1, n2, n3, n4⟩ := HZ.out w2 B2.out; clear b2))
        clear u0 u1 p0 p1 p2 p3 p4 n0 n1 n2 n3 n4
        have YB := Lib.hid (HZ.out _ (dr B2.out))
        go_region_held3 (fun w' => w'.cell? ⟨w.heap.size, 0, none⟩ = some (.slice (some ⟨bl, ol, none⟩) m cap) ∧ w'.cell? ⟨w.heap.size, 1, none⟩ = some (.bool true) ∧ w'.cell? ⟨(w.heap.size + 1), 0, none⟩ = some (.int .i64 q.l) ∧ w'.cell? ⟨(w.heap.size + 1), 1, none⟩ = some (.bool q.d) ∧ w'.cell? ⟨(w.heap.size + 1), 2, none⟩ = some (.bool q.i) ∧ w'.cell? ⟨(w.heap.size + 1), 3, none⟩ = some (.bool q.g) ∧ w'.cell? ⟨(w.heap.size + 1), 4, none⟩ = some (.bool q.s) ∧ w'.cell? ⟨bl, ol + i * 5, none⟩ = some (.int .i64 n.k) ∧ w'.cell? ⟨bl, ol + i * 5 + 1, none⟩ = some (.int .i64 n.op) ∧ w'.cell? ⟨bl, ol + i * 5 + 2, none⟩ = some (.string n.s) ∧ w'.cell? ⟨bl, ol + i * 5 + 3, none⟩ = some (.string n.t) ∧ w'.cell? ⟨bl, ol + i * 5 + 4, none⟩ = some (.slice ak n.kids.length ck))
          (first | (with_reducible exact YB.out) | (with_reducible exact HZ.out _ BT.out) | (with_reducible exact HZ.out _ (al BT.out _)) | (with_reducible exact HZ.out _ BP.out) | (with_reducible exact HZ.out _ (al BP.out _)) | (with_reducible exact HZ.out _ BN.out) | (with_reducible exact HZ.out _ (al BN.out _)) | (with_reducible exact HZ.out _ BA.out))
          (first | (go_at_call 40; refine (spec_tok 32 _).mono ?_; rintro e wT ⟨rfl, bT⟩; have BT := Lib.hid (nx B2.out (undrew bT))) | (go_at_call 30; refine (ps.spec_top _).mono ?_; rintro e wP ⟨rfl, bP⟩; have BP := Lib.hid (show Below W0.heap.size W0 wP from by first | with_reducible exact nx BT.out bP | with_reducible exact nx (al BT.out _) bP)) | (go_at_call 38; refine (HN.out top top_ok _ (by first | with_reducible exact HL.out.on BP.out (Nat.le_refl _) | with_reducible exact HL.out.on (al BP.out _) (Nat.le_refl _))).mono ?_; rintro e wN ⟨vN, rfl, bN, oN⟩; have BN := Lib.hid (show Below W0.heap.size W0 wN from by first | with_reducible exact nx BP.out bN | with_reducible exact nx (al BP.out _) bN); have ON := Lib.hid (show own.Own W0.heap.size vN (U i top) wN from by first | with_reducible exact oN.up BP.out.size | with_reducible exact oN.up (al BP.out _).size)) | (refine step_toks (by rfl) _ _ (by rfl) W0.heap.size _ [tok 32] (by rfl) (by first | exact lit1 wN (tok 32) BN.out.size | exact (lit1 wP (tok 32) BP.out.size).keep bN (Nat.le_refl _) | exact ((lit1 wT (tok 32) BT.out.size).keep bP (Nat.le_refl _)).keep bN (Nat.le_refl _)) W0.heap.size vN (U i top) (by rfl) (by first | with_reducible exact ON.out | with_reducible exact ON.out.keep ((Below.refl _ _).alloc (Nat.le_refl _) _) (Nat.le_refl _)) HLN.out (by first | with_reducible exact BN.out.size | with_reducible exact (al BN.out _).size) ?_; intro vA wA oA bA gA; have BA := Lib.hid (show Below W0.heap.size W0 wA from by first | with_reducible exact BN.out.trans bA | with_reducible exact (al BN.out _).trans bA); have OA := Lib.hid oA; clear oA bA gA))
        all_goals
          go_wp2_with (first | (go_at_call 40; refine (spec_tok 33 _).mono ?_; rintro e wS ⟨rfl, bS⟩; have BS := Lib.hid (nx BA.out bS); have OS := Lib.hid (OA.out.keep bS (Nat.le_refl _)); clear bS) | (at_builtin; refine wpList_toks (by rfl) _ _ (by rfl) W0.heap.size _ ([tok 32] ++ U i top) (by rfl) (OS.out.keep ((Below.refl _ _).alloc (Nat.le_refl _) _) (Nat.le_refl _)) W0.heap.size _ [tok 33] (by rfl) (lit1 wS (tok 33) BS.out.size) HLN2.out (al BS.out _).size ?_; intro vR wR oR bR gR; have BR := Lib.hid ((al BS.out _).trans bR); have OR := Lib.hid oR; clear oR bR gR))
          go_ret
          exact ⟨vR, rfl, HW0.out.trans (BR.out.mono HW0.out.size), OR.out.up HW0.out.size⟩
    · obtain ⟨W0, hW⟩ : ∃ W, W = ((w.alloc (.cells #[.slice (some ⟨bl, ol, none⟩) m cap, .bool true] 48)).alloc (.cells #[.int .i64 q.l, .bool q.d, .bool q.i, .bool q.g, .bool q.s] 30)) := ⟨_, rfl⟩
      go_enter Tryz.func20, Tryz.ntmps20
      go_wp2_with fail
      rw [← hW] at HZ HW0 HL ⊢
      clear hW
      have Y0 := Lib.hid (HZ.out _ (dr (Below.refl _ W0)))
      go_region_held3 (fun w' => w'.cell? ⟨w.heap.size, 0, none⟩ = some (.slice (some ⟨bl, ol, none⟩) m cap) ∧ w'.cell? ⟨w.heap.size, 1, none⟩ = some (.bool true) ∧ w'.cell? ⟨(w.heap.size + 1), 0, none⟩ = some (.int .i64 q.l) ∧ w'.cell? ⟨(w.heap.size + 1), 1, none⟩ = some (.bool q.d) ∧ w'.cell? ⟨(w.heap.size + 1), 2, none⟩ = some (.bool q.i) ∧ w'.cell? ⟨(w.heap.size + 1), 3, none⟩ = some (.bool q.g) ∧ w'.cell? ⟨(w.heap.size + 1), 4, none⟩ = some (.bool q.s) ∧ w'.cell? ⟨bl, ol + i * 5, none⟩ = some (.int .i64 n.k) ∧ w'.cell? ⟨bl, ol + i * 5 + 1, none⟩ = some (.int .i64 n.op) ∧ w'.cell? ⟨bl, ol + i * 5 + 2, none⟩ = some (.string n.s) ∧ w'.cell? ⟨bl, ol + i * 5 + 3, none⟩ = some (.string n.t) ∧ w'.cell? ⟨bl, ol + i * 5 + 4, none⟩ = some (.slice ak n.kids.length ck))
        (first | with_reducible exact Y0.out | with_reducible exact Y1.out)
        (first | (go_at_call 37; refine (ps.spec_fits n.k n.op q.l n.s n.t ak n.kids.length ck q.d q.i q.g q.s _).mono ?_; rw [HC.out]; rintro e w1 ⟨rfl, b1⟩; have B1 := Lib.hid (show Below W0.heap.size W0 w1 from undrew b1); have Y1 := Lib.hid (HZ.out w1 B1.out); clear b1))
      obtain ⟨u0, u1, p0, p1, p2, p3, p4, n0, n1, n2, n3, n4⟩ := Y1.out
      go_wp2_with (first | (go_at_call 39; refine (lv.spec_level n.k n.op n.s n.t ak n.kids.length ck _).mono ?_; rw [HV.out]; rintro e w2 ⟨rfl, b2⟩; have B2 := Lib.hid (nx B1.out b2); obtain ⟨u0, u1, p0, p1, p2, p3, p4, n0, n1, n2, n3, n4⟩ := HZ.out w2 B2.out; clear b2))
      clear u0 u1 p0 p1 p2 p3 p4 n0 n1 n2 n3 n4
      have YB := Lib.hid (HZ.out _ (dr B2.out))
      go_region_held3 (fun w' => w'.cell? ⟨w.heap.size, 0, none⟩ = some (.slice (some ⟨bl, ol, none⟩) m cap) ∧ w'.cell? ⟨w.heap.size, 1, none⟩ = some (.bool true) ∧ w'.cell? ⟨(w.heap.size + 1), 0, none⟩ = some (.int .i64 q.l) ∧ w'.cell? ⟨(w.heap.size + 1), 1, none⟩ = some (.bool q.d) ∧ w'.cell? ⟨(w.heap.size + 1), 2, none⟩ = some (.bool q.i) ∧ w'.cell? ⟨(w.heap.size + 1), 3, none⟩ = some (.bool q.g) ∧ w'.cell? ⟨(w.heap.size + 1), 4, none⟩ = some (.bool q.s) ∧ w'.cell? ⟨bl, ol + i * 5, none⟩ = some (.int .i64 n.k) ∧ w'.cell? ⟨bl, ol + i * 5 + 1, none⟩ = some (.int .i64 n.op) ∧ w'.cell? ⟨bl, ol + i * 5 + 2, none⟩ = some (.string n.s) ∧ w'.cell? ⟨bl, ol + i * 5 + 3, none⟩ = some (.string n.t) ∧ w'.cell? ⟨bl, ol + i * 5 + 4, none⟩ = some (.slice ak n.kids.length ck))
        (first | (with_reducible exact YB.out) | (with_reducible exact HZ.out _ BT.out) | (with_reducible exact HZ.out _ (al BT.out _)) | (with_reducible exact HZ.out _ BP.out) | (with_reducible exact HZ.out _ (al BP.out _)) | (with_reducible exact HZ.out _ BN.out) | (with_reducible exact HZ.out _ (al BN.out _)) | (with_reducible exact HZ.out _ BA.out))
        (first | (go_at_call 40; refine (spec_tok 32 _).mono ?_; rintro e wT ⟨rfl, bT⟩; have BT := Lib.hid (nx B2.out (undrew bT))) | (go_at_call 30; refine (ps.spec_top _).mono ?_; rintro e wP ⟨rfl, bP⟩; have BP := Lib.hid (show Below W0.heap.size W0 wP from by first | with_reducible exact nx BT.out bP | with_reducible exact nx (al BT.out _) bP)) | (go_at_call 38; refine (HN.out top top_ok _ (by first | with_reducible exact HL.out.on BP.out (Nat.le_refl _) | with_reducible exact HL.out.on (al BP.out _) (Nat.le_refl _))).mono ?_; rintro e wN ⟨vN, rfl, bN, oN⟩; have BN := Lib.hid (show Below W0.heap.size W0 wN from by first | with_reducible exact nx BP.out bN | with_reducible exact nx (al BP.out _) bN); have ON := Lib.hid (show own.Own W0.heap.size vN (U i top) wN from by first | with_reducible exact oN.up BP.out.size | with_reducible exact oN.up (al BP.out _).size)) | (refine step_toks (by rfl) _ _ (by rfl) W0.heap.size _ [tok 32] (by rfl) (by first | exact lit1 wN (tok 32) BN.out.size | exact (lit1 wP (tok 32) BP.out.size).keep bN (Nat.le_refl _) | exact ((lit1 wT (tok 32) BT.out.size).keep bP (Nat.le_refl _)).keep bN (Nat.le_refl _)) W0.heap.size vN (U i top) (by rfl) (by first | with_reducible exact ON.out | with_reducible exact ON.out.keep ((Below.refl _ _).alloc (Nat.le_refl _) _) (Nat.le_refl _)) HLN.out (by first | with_reducible exact BN.out.size | with_reducible exact (al BN.out _).size) ?_; intro vA wA oA bA gA; have BA := Lib.hid (show Below W0.heap.size W0 wA from by first | with_reducible exact BN.out.trans bA | with_reducible exact (al BN.out _).trans bA); have OA := Lib.hid oA; clear oA bA gA))
      all_goals
        go_wp2_with (first | (go_at_call 40; refine (spec_tok 33 _).mono ?_; rintro e wS ⟨rfl, bS⟩; have BS := Lib.hid (nx BA.out bS); have OS := Lib.hid (OA.out.keep bS (Nat.le_refl _)); clear bS) | (at_builtin; refine wpList_toks (by rfl) _ _ (by rfl) W0.heap.size _ ([tok 32] ++ U i top) (by rfl) (OS.out.keep ((Below.refl _ _).alloc (Nat.le_refl _) _) (Nat.le_refl _)) W0.heap.size _ [tok 33] (by rfl) (lit1 wS (tok 33) BS.out.size) HLN2.out (al BS.out _).size ?_; intro vR wR oR bR gR; have BR := Lib.hid ((al BS.out _).trans bR); have OR := Lib.hid oR; clear oR bR gR))
        go_ret
        exact ⟨vR, rfl, HW0.out.trans (BR.out.mono HW0.out.size), OR.out.up HW0.out.size⟩
end Go.Proofs.YtdikohegclooiaaGreatDoor.st
