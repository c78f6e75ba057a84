/-
  'laws.FnRights' returns true at every slice of bytes, and leaves it as it was: of the nodes that the model draws from it: impl.TreeOk and the model agree; where the tree is valid, each node satisfies impl.FieldsOk, each part is a valid tree, and a node has a level exactly if it is an expression; impl.ExprOk and impl.ProgramOk say that the tree is valid and its last node is an expression, or the program's. The row lists impl's two tables of spellings (keywords, operators), tied to the program's text (the card), and says that they read behind the call as before. No other condition. What is listed is tied to the copy of the project that the seat holds (its packages impl, spec and laws, no test): of code elsewhere that could write these variables the card says nothing.
-/
import Derived.Test.YtphccenlflhfjaaGreatDoorCards
import Derived.Test.YtphccenlflhfjaaGreatDoorTie
import Derived.Test.YtphccenlflhfjaaGreatDoorLaidKw
import Derived.Test.YtphccenlflhfjaaGreatDoorGD
import Derived.Test.YtphccenlflhfjaaGreatDoorGC
import Derived.Test.YtphccenlflhfjaaGreatDoorPartSpec
import Derived.Test.YtphccenlflhfjaaGreatDoorTreeOk
import Derived.OpenVars
import Derived.Deep.DeepHandedRow
import Derived.Deep.RegionHeld3
import Derived.Lib.SmallJoins
import Derived.Stop.LaidErr
namespace Go.Proofs.YtphccenlflhfjaaGreatDoor.lawRights
open Go.ChangeShapes Go.WideShapes Go.ChangeAt Go.RowKit
open spell (Held held)
open nd
open draw (Wild)
open rt (treeOk nodeF isExpr lastK exprOk progOk tree_node part_tree)
set_option linter.unusedVariables false

theorem part_kids (l : List Nd) (i : Int) (k : Nat) (hk : ∀ t ∈ l, t.kids.length ≤ k) : ∀ t ∈ partF l i, t.kids.length ≤ k := by
  intro t ht
  unfold partF at ht
  split at ht
  · unfold partS at ht
    obtain ⟨u, hu, rfl⟩ := List.mem_map.1 ht
    show (shK _ u.kids).length ≤ k
    rw [shK_len]
    exact hk u (List.mem_of_mem_drop (List.mem_of_mem_take hu))
  · cases ht
theorem part_str (l : List Nd) (i : Int) (k : Nat) (hk : ∀ t ∈ l, t.s.size ≤ k ∧ t.t.size ≤ k) : ∀ t ∈ partF l i, t.s.size ≤ k ∧ t.t.size ≤ k := by
  intro t ht
  unfold partF at ht
  split at ht
  · unfold partS at ht
    obtain ⟨u, hu, rfl⟩ := List.mem_map.1 ht
    exact hk u (List.mem_of_mem_drop (List.mem_of_mem_take hu))
  · cases ht
theorem part_len (l : List Nd) (i : Int) : (partF l i).length ≤ l.length := by
  unfold partF
  split
  · unfold partS
    simp
    omega
  · simp
/-- A right node has a level exactly if it is an expression. -/
theorem lev_expr {k op n : Int} {s t : ByteArray} (h : rt.fieldsOk k op s t n = true) : (isExpr k = true → 0 < lv.levelOf k op) ∧ (isExpr k = false → ¬ 0 < lv.levelOf k op) := by
  unfold rt.fieldsOk at h
  simp only [Bool.and_eq_true] at h
  have hop := h.1.1.1.2
  unfold rt.isExpr chars.inR
  constructor
  · intro hk
    have hk2 : 1 ≤ k ∧ k ≤ 15 := by simpa using hk
    unfold lv.levelOf
    by_cases h12 : k = 12
    · subst h12
      have hb : rt.isBin op = true := by unfold rt.opOk at hop; simpa using hop
      simp only [rt.isBin, Bool.or_eq_true, beq_iff_eq] at hb
      rcases hb with (((((((((((((((h | h) | h) | h) | h) | h) | h) | h) | h) | h) | h) | h) | h) | h) | h) | h) | h <;> (subst h; decide)
    · repeat' split
      all_goals omega
  · intro hk
    have hk2 : ¬ (1 ≤ k ∧ k ≤ 15) := by simpa using hk
    unfold lv.levelOf
    repeat' split
    all_goals first | omega | (exfalso; omega)
/-- One node's five cells, read below B; nothing below it has turned. -/
def Rn (w : World) (b o : Nat) (t : Nd) (ak : Option Addr) (ck : Nat) (W : World) : Prop :=
  (W.cell? ⟨b, o, none⟩ = some (.int .i64 t.k) ∧ W.cell? ⟨b, o + 1, none⟩ = some (.int .i64 t.op) ∧ W.cell? ⟨b, o + 2, none⟩ = some (.string t.s) ∧ W.cell? ⟨b, o + 3, none⟩ = some (.string t.t) ∧ W.cell? ⟨b, o + 4, none⟩ = some (.slice ak t.kids.length ck)) ∧ Below w.heap.size w W ∧ w.heap.size ≤ W.heap.size
theorem Rn.drew {w W : World} {b o : Nat} {t : Nd} {ak : Option Addr} {ck : Nat} (h : Rn w b o t ak ck W) : Rn w b o t ak ck W.drew := ⟨h.1, h.2.1.drew, h.2.2⟩
theorem Rn.keep {w W w1 : World} {b o : Nat} {t : Nd} {ak : Option Addr} {ck : Nat} (hb : b < w.heap.size) (h : Rn w b o t ak ck W) (hk : Below W.heap.size W w1) : Rn w b o t ak ck w1 := by
  have hb' : b < W.heap.size := Nat.lt_of_lt_of_le hb h.2.2
  exact ⟨⟨(hk.cell (p := ⟨b, o, none⟩) hb').trans h.1.1, (hk.cell (p := ⟨b, o + 1, none⟩) hb').trans h.1.2.1, (hk.cell (p := ⟨b, o + 2, none⟩) hb').trans h.1.2.2.1, (hk.cell (p := ⟨b, o + 3, none⟩) hb').trans h.1.2.2.2.1, (hk.cell (p := ⟨b, o + 4, none⟩) hb').trans h.1.2.2.2.2⟩, h.2.1.trans (hk.mono h.2.2), Nat.le_trans h.2.2 hk.size⟩
def RelI (B : Nat) (w : World) (n : Nat) (i : Value) (wr : World) : Prop :=
  ∃ I : Nat, I ≤ n ∧ i = .int .i64 (I : Int) ∧ Below B w wr
theorem last_eq {l : List Nd} {n : Nat} (h : l.length = n + 1) (hn : n < l.length) : lastK l = l[n].k := by
  unfold rt.lastK
  rw [h, Nat.add_sub_cancel, List.getD_eq_getElem?_getD, List.getElem?_eq_getElem hn]
  rfl
theorem tree_pos {l : List Nd} (h : treeOk l = true) : ∃ n, l.length = n + 1 := by
  have h1 := (shape_yes (rt.tree_parts h).1).1
  exact ⟨l.length - 1, by omega⟩

set_option maxRecDepth 100000 in
set_option maxHeartbeats 4000000 in
theorem core {a : Option Addr} {len cap : Nat} {zs : List Int} {w : World} (hc : draw.Code w.heap.size w a len zs) (hl : len ≤ 1048576) (hh : Held w) :
    Calls Tryz.prog 3 #[.slice a len cap] w fun e w' => e = .returned (.bool true) ∧ Below w.heap.size w w' := by
  have HC := Lib.hid hc
  have HH := Lib.hid hh
  clear hc hh
  have hbig : decide (1048576 < len) = false := by simp; omega
  go_enter Tryz.func3, Tryz.ntmps3
  go_wp2_with fail
  refine (draw.big_any a len cap _ (by omega)).mono ?_
  rintro e w' ⟨he, rfl⟩
  rw [hbig] at he
  subst he
  clear hbig
  go_wp2_with fail
  refine (draw.drawTree_any HC.out hl).mono ?_
  rintro e w1 ⟨q, a2, c2, rfl, hL, hcq, hW, b1⟩
  have hqn : q.length ≤ 1048576 := by have := hW.1; omega
  have HQN := Lib.hid hqn
  have HK := Lib.hid (show ∀ t ∈ q, t.kids.length ≤ 1048576 from fun t ht => Nat.le_trans (hW.2.1 t ht) (by decide))
  have HS := Lib.hid (show ∀ t ∈ q, t.s.size ≤ 1048576 ∧ t.t.size ≤ 1048576 from fun t ht => ⟨Nat.le_trans (hW.2.2 t ht).1 (by decide), Nat.le_trans (hW.2.2 t ht).2 (by decide)⟩)
  have HL1 := Lib.hid hL
  have B1 := Lib.hid b1
  have HCQ := Lib.hid hcq
  clear hL b1 hW hcq
  obtain ⟨T, hT⟩ : ∃ T, treeOk q = T := ⟨_, rfl⟩
  have HT := Lib.hid hT
  clear hT
  go_wp2_with fail
  refine (rt.impl_tree q a2 c2 w1 HQN.out HK.out HS.out HL1.out (HH.out.below B1.out)).mono ?_
  rw [HT.out]
  rintro e w2 ⟨rfl, b2⟩
  have HL2 := Lib.hid (HL1.out.on b2 (Nat.le_refl _))
  have B2 := Lib.hid (B1.out.trans (b2.mono B1.out.size))
  clear b2
  go_wp2_with fail
  refine (rt.spec_tree q a2 c2 w2 HQN.out HK.out HS.out HL2.out).mono ?_
  rw [HT.out]
  rintro e w3 ⟨rfl, b3⟩
  have HL3 := Lib.hid (HL2.out.on b3 (Nat.le_refl _))
  have B3 := Lib.hid (B2.out.trans (b3.mono B2.out.size))
  have hTT : (T != T) = false := by simp
  clear b3 HL1 HL2 B1 B2
  go_wp2
  obtain ⟨n, hn⟩ : ∃ n, q.length = n := ⟨_, rfl⟩
  have HN := Lib.hid hn
  rw [hn] at hqn ⊢
  clear hn
  go_loopw [5] (fun i wr => RelI w3.heap.size w3 n i wr) (fun i _ => n - (intOf i).toNat)
  case atStart => exact ⟨0, Nat.zero_le _, rfl, Below.refl _ _⟩
  case round =>
    obtain ⟨I, hI, rfl, hbel⟩ := hrel
    have HB := Lib.hid hbel
    have HLr := Lib.hid (HL3.out.on HB.out (Nat.le_refl _))
    have Br := Lib.hid (B3.out.trans (HB.out.mono B3.out.size))
    have HHr := Lib.hid (HH.out.below Br.out)
    clear hbel hTT
    cases T
    · have HEX := Lib.hid (show exprOk q = false by unfold rt.exprOk; rw [HT.out]; rfl)
      have HPX := Lib.hid (show progOk q = false by unfold rt.progOk; rw [HT.out]; rfl)
      by_cases hlt : I < n
      · have h1 : (I : Int) < (n : Int) := by omega
        clear hlt hI hqn
        go_wp2_with fail
        rw [← HN.out]
        refine (rt.impl_expr q a2 c2 _ HQN.out HK.out HS.out HLr.out HHr.out).mono ?_
        rw [HEX.out]
        rintro e w5 ⟨rfl, b5⟩
        have HL5 := Lib.hid (HLr.out.on b5 (Nat.le_refl _))
        have B5 := Lib.hid (Br.out.trans (b5.mono Br.out.size))
        clear b5
        go_wp2_with fail
        refine (rt.impl_prog q a2 c2 _ HQN.out HK.out HS.out HL5.out (HH.out.below B5.out)).mono ?_
        rw [HPX.out]
        rintro e w6 ⟨rfl, b6⟩
        have B6 := Lib.hid (B5.out.trans (b6.mono B5.out.size))
        clear b6
        go_wp2
        go_ret
        exact ⟨rfl, B6.out⟩
      · have h1 : ¬ (I : Int) < (n : Int) := by omega
        clear hlt hI hqn
        go_wp2_with fail
        rw [← HN.out]
        refine (rt.impl_expr q a2 c2 _ HQN.out HK.out HS.out HLr.out HHr.out).mono ?_
        rw [HEX.out]
        rintro e w5 ⟨rfl, b5⟩
        have HL5 := Lib.hid (HLr.out.on b5 (Nat.le_refl _))
        have B5 := Lib.hid (Br.out.trans (b5.mono Br.out.size))
        clear b5
        go_wp2_with fail
        refine (rt.impl_prog q a2 c2 _ HQN.out HK.out HS.out HL5.out (HH.out.below B5.out)).mono ?_
        rw [HPX.out]
        rintro e w6 ⟨rfl, b6⟩
        have B6 := Lib.hid (B5.out.trans (b6.mono B5.out.size))
        clear b6
        go_wp2
        go_ret
        exact ⟨rfl, B6.out⟩
    · by_cases hlt : I < n
      · have h1 : (I : Int) < (n : Int) := by omega
        have h0 : (0 : Int) ≤ (I : Int) := by omega
        have hq1 : I < q.length := by rw [HN.out]; exact hlt
        obtain ⟨hnf, -⟩ := tree_node HT.out hq1
        have HPT := Lib.hid (show treeOk (partF q (I : Int)) = true by rw [part_yes (rt.tree_parts HT.out).1 hq1]; exact part_tree HT.out hq1)
        have HXK := Lib.hid (part_kids q I 1048576 HK.out)
        have HXS := Lib.hid (part_str q I 1048576 HS.out)
        have HXN := Lib.hid (show (partF q (I : Int)).length ≤ 1048576 from Nat.le_trans (part_len q I) HQN.out)
        obtain ⟨b, o, rfl, hb, hcell⟩ := lies_at HLr.out hq1
        obtain ⟨ak, ck, ⟨c0, c1, c2', c3, c4⟩, hik⟩ := hcell I hq1
        have hkn := HK.out q[I] (List.getElem_mem hq1)
        have hsn := HS.out q[I] (List.getElem_mem hq1)
        obtain ⟨x, hx⟩ : ∃ x, x = partF q (I : Int) := ⟨_, rfl⟩
        have HX := Lib.hid hx
        rw [← hx] at HPT HXK HXS HXN
        obtain ⟨t, ht⟩ : ∃ t, t = q[I] := ⟨_, rfl⟩
        rw [← ht] at c0 c1 c2' c3 c4 hkn hsn hnf
        have HNF := Lib.hid (show rt.fieldsOk t.k t.op t.s t.t t.kids.length = true from hnf)
        have HKN := Lib.hid hkn
        have HSN := Lib.hid hsn
        have HB0 := Lib.hid hb
        have R0 := Lib.hid (show Rn wr b (o + I * 5) t ak ck wr from ⟨⟨c0, c1, c2', c3, c4⟩, Below.refl _ _, Nat.le_refl _⟩)
        have HSP := Lib.hid (show ∀ W : World, Below wr.heap.size wr W → Calls Tryz.prog 9 #[.slice (some ⟨b, o, none⟩) n c2, .int .i64 (I : Int)] W (PtOut x W) from fun W hb => by
          have h := spec_part q I (some ⟨b, o, none⟩) c2 W HQN.out HCQ.out HK.out (HLr.out.on hb (Nat.le_refl _))
          rw [HN.out, ← HX.out] at h
          exact h)
        obtain ⟨V, hV⟩ : ∃ V, lv.levelOf t.k t.op = V := ⟨_, rfl⟩
        have HV := Lib.hid hV
        have hlev := lev_expr HNF.out
        rw [hV] at hlev
        obtain ⟨E, hE⟩ : ∃ E, isExpr t.k = E := ⟨_, rfl⟩
        have HE := Lib.hid hE
        rw [hE] at hlev
        obtain ⟨p4, hp4⟩ : ∃ p4, some (⟨b, o, none⟩ : Addr) = p4 := ⟨_, rfl⟩
        clear hik hcell hx ht hnf hkn hsn hV hE c0 c1 c2' c3 c4 hp4 p4
        cases E
        · have hv : ¬ 0 < V := hlev.2 rfl
          clear hlev
          go_wp2
          go_region_held3 (fun w' => (w'.cell? ⟨b, o + I * 5, none⟩ = some (.int .i64 t.k) ∧ w'.cell? ⟨b, o + I * 5 + 1, none⟩ = some (.int .i64 t.op) ∧ w'.cell? ⟨b, o + I * 5 + 2, none⟩ = some (.string t.s) ∧ w'.cell? ⟨b, o + I * 5 + 3, none⟩ = some (.string t.t) ∧ w'.cell? ⟨b, o + I * 5 + 4, none⟩ = some (.slice ak t.kids.length ck)) ∧ Below wr.heap.size wr w' ∧ wr.heap.size ≤ w'.heap.size)
            (first | assumption | exact R0.out | exact R0.out.drew | exact Rn.keep HB0.out (by assumption : _ ∧ Below _ _ _ ∧ _) (by assumption) | exact Rn.drew (by assumption : _ ∧ Below _ _ _ ∧ _))
            (first
              | (go_at_call 8; refine (rt.impl_fields t.k t.op t.s t.t _ _ _ _ HSN.out.1 HSN.out.2 HKN.out (HHr.out.below (by assumption : _ ∧ Below _ _ _ ∧ _).2.1)).mono ?_; rw [HNF.out]; rintro e w5 ⟨rfl, b5⟩)
              | (go_at_call 9; refine (HSP.out _ (by assumption : _ ∧ Below _ _ _ ∧ _).2.1).mono ?_; rintro e w6 ⟨v6, z6, r6, rfl, hz6, pt6, b6⟩; obtain ⟨a6, c6, rfl⟩ := pt6.form; have HY6 := Lib.hid (show Lies w6.heap.size w6 a6 x by rw [← hz6]; exact pt6.lies); have hzl : z6.length = x.length := (by rw [← hz6, List.length_map]); rw [hzl]; clear hz6 pt6 hzl)
              | (go_at_call 6; refine (rt.impl_tree x _ _ _ HXN.out HXK.out HXS.out HY6.out (HHr.out.below (by assumption : _ ∧ Below _ _ _ ∧ _).2.1)).mono ?_; rw [HPT.out]; rintro e w7 ⟨rfl, b7⟩)
              | (go_at_call 10; refine (lv.impl_level t.k t.op t.s t.t _ _ _ _).mono ?_; rw [HV.out]; rintro e w8 ⟨rfl, b8⟩)
              | (go_at_call 11; refine (rt.impl_isExpr t.k _).mono ?_; rw [HE.out]; rintro e w9 ⟨rfl, rfl⟩))
          have HBZ := Lib.hid (by assumption : _ ∧ Below _ _ _ ∧ _).2.1
          go_wp2
          go_roundw
          case rel => exact ⟨I + 1, hlt, by go_num, HB.out.trans (HBZ.out.mono HB.out.size)⟩
          case measure => simp [intOf]; omega
        · have hv : 0 < V := hlev.1 rfl
          clear hlev
          go_wp2
          go_region_held3 (fun w' => (w'.cell? ⟨b, o + I * 5, none⟩ = some (.int .i64 t.k) ∧ w'.cell? ⟨b, o + I * 5 + 1, none⟩ = some (.int .i64 t.op) ∧ w'.cell? ⟨b, o + I * 5 + 2, none⟩ = some (.string t.s) ∧ w'.cell? ⟨b, o + I * 5 + 3, none⟩ = some (.string t.t) ∧ w'.cell? ⟨b, o + I * 5 + 4, none⟩ = some (.slice ak t.kids.length ck)) ∧ Below wr.heap.size wr w' ∧ wr.heap.size ≤ w'.heap.size)
            (first | assumption | exact R0.out | exact R0.out.drew | exact Rn.keep HB0.out (by assumption : _ ∧ Below _ _ _ ∧ _) (by assumption) | exact Rn.drew (by assumption : _ ∧ Below _ _ _ ∧ _))
            (first
              | (go_at_call 8; refine (rt.impl_fields t.k t.op t.s t.t _ _ _ _ HSN.out.1 HSN.out.2 HKN.out (HHr.out.below (by assumption : _ ∧ Below _ _ _ ∧ _).2.1)).mono ?_; rw [HNF.out]; rintro e w5 ⟨rfl, b5⟩)
              | (go_at_call 9; refine (HSP.out _ (by assumption : _ ∧ Below _ _ _ ∧ _).2.1).mono ?_; rintro e w6 ⟨v6, z6, r6, rfl, hz6, pt6, b6⟩; obtain ⟨a6, c6, rfl⟩ := pt6.form; have HY6 := Lib.hid (show Lies w6.heap.size w6 a6 x by rw [← hz6]; exact pt6.lies); have hzl : z6.length = x.length := (by rw [← hz6, List.length_map]); rw [hzl]; clear hz6 pt6 hzl)
              | (go_at_call 6; refine (rt.impl_tree x _ _ _ HXN.out HXK.out HXS.out HY6.out (HHr.out.below (by assumption : _ ∧ Below _ _ _ ∧ _).2.1)).mono ?_; rw [HPT.out]; rintro e w7 ⟨rfl, b7⟩)
              | (go_at_call 10; refine (lv.impl_level t.k t.op t.s t.t _ _ _ _).mono ?_; rw [HV.out]; rintro e w8 ⟨rfl, b8⟩)
              | (go_at_call 11; refine (rt.impl_isExpr t.k _).mono ?_; rw [HE.out]; rintro e w9 ⟨rfl, rfl⟩))
          have HBZ := Lib.hid (by assumption : _ ∧ Below _ _ _ ∧ _).2.1
          go_wp2
          go_roundw
          case rel => exact ⟨I + 1, hlt, by go_num, HB.out.trans (HBZ.out.mono HB.out.size)⟩
          case measure => simp [intOf]; omega
      · have h1 : ¬ (I : Int) < (n : Int) := by omega
        obtain ⟨N, hN⟩ := tree_pos HT.out
        have hNl : N < q.length := by omega
        obtain ⟨b, o, rfl, hb, hcell⟩ := lies_at HLr.out hNl
        obtain ⟨_, _, ⟨c0, -⟩, -⟩ := hcell N hNl
        obtain ⟨K, hK⟩ : ∃ K, K = q[N].k := ⟨_, rfl⟩
        have hLK : lastK q = K := by rw [last_eq hN hNl, hK]
        have HEX := Lib.hid (show exprOk q = isExpr K by unfold rt.exprOk; rw [HT.out, hLK]; rfl)
        have HPX := Lib.hid (show progOk q = (K == 45) by unfold rt.progOk; rw [HT.out, hLK]; rfl)
        rw [← hK] at c0
        have hnN : n = N + 1 := by rw [← HN.out]; exact hN
        have h2 : (0 : Int) ≤ (N : Int) := by omega
        have h3 : (N : Int) < (N : Int) + 1 := by omega
        have HB0 := Lib.hid hb
        have C0 := Lib.hid c0
        clear hK hLK hN hcell c0 hb hNl
        subst hnN
        obtain ⟨G1, hG1⟩ : ∃ G1, isExpr K = G1 := ⟨_, rfl⟩
        obtain ⟨G2, hG2⟩ : ∃ G2, (K == 45) = G2 := ⟨_, rfl⟩
        have HG1 := Lib.hid hG1
        rw [hG1] at HEX
        have HG2 := Lib.hid hG2
        rw [hG2] at HPX
        clear hG1
        have hg1 : (G1 == G1) = true := by simp
        have hg2 : (G2 == G2) = true := by simp
        go_wp2_with fail
        have HXP := Lib.hid (rt.impl_expr q _ c2 wr HQN.out HK.out HS.out HLr.out HHr.out)
        rw [HN.out, HEX.out] at HXP
        refine HXP.out.mono ?_
        rintro e w5 ⟨rfl, b5⟩
        have HL5 := Lib.hid (HLr.out.on b5 (Nat.le_refl _))
        have B5 := Lib.hid (Br.out.trans (b5.mono Br.out.size))
        have c5 := (b5.cell (p := ⟨b, o + N * 5, none⟩) HB0.out).trans C0.out
        have hb5 := Nat.lt_of_lt_of_le HB0.out b5.size
        clear b5 HXP
        go_wp2_with (go_at_call 13; refine (rt.spec_isExpr _ _).mono ?_; rw [HG1.out]; rintro e w' ⟨rfl, rfl⟩)
        have HXQ := Lib.hid (rt.impl_prog q _ c2 w5 HQN.out HK.out HS.out HL5.out (HH.out.below B5.out))
        rw [HN.out, HPX.out] at HXQ
        refine HXQ.out.mono ?_
        rintro e w6 ⟨rfl, b6⟩
        have c6 := (b6.cell (p := ⟨b, o + N * 5, none⟩) hb5).trans c5
        have B6 := Lib.hid (B5.out.trans (b6.mono B5.out.size))
        clear b6 HXQ
        go_wp2
        go_ret
        exact ⟨by rfl, B6.out⟩

set_option maxRecDepth 100000 in
/-- THE WALK: the law's own text. -/
theorem walk (a : Option Addr) (len cap : Nat) (zs : List Int) (w : World) (hz : draw.IsRow .u8 w a len cap zs) (hh : Held w) :
    Calls Tryz.prog 3 #[.slice a len cap] w fun e w' => e = .returned (.bool true) ∧ Below w.heap.size w w' := by
  have hlm : len ≤ maxLen := by
    rcases hz with ⟨_, rfl, _, _⟩ | ⟨x, _, hl, hm, _⟩
    · exact Nat.zero_le _
    · exact Nat.le_trans hl hm
  unfold maxLen at hlm
  by_cases hl : len ≤ 1048576
  · exact core (draw.code_of hz) hl hh
  · have hbig : decide (1048576 < len) = true := by simp; omega
    clear hz
    go_enter Tryz.func3, Tryz.ntmps3
    go_wp2_with fail
    refine (draw.big_any a len cap _ (by omega)).mono ?_
    rintro e w' ⟨he, rfl⟩
    rw [hbig] at he
    subst he
    go_wp2
    go_ret
    exact ⟨rfl, Below.refl _ _⟩
end Go.Proofs.YtphccenlflhfjaaGreatDoor.lawRights
namespace Go.Proofs.YtphccenlflhfjaaGreatDoor.lawRights
open Go.ChangeShapes Go.WideShapes Go.ChangeAt Go.RowKit
open Go.ChangeMaps (open_string shut_string)
abbrev IsRow := draw.IsRow
theorem own : ownKnob Tryz.prog.godebug = none := by kernel_rfl
theorem laidOut : laidOutB Tryz.prog = true := by kernel_rfl

set_option maxRecDepth 100000 in
theorem contract (H : Type) (enc : TypeId × Value → H) (W : World) (base : Nat) (args : Array Value) (ds gs : List (DataW H)) (before : List MemPlace)
    (hval : ∀ (j : Nat) t v, Tryz.f3.params[j]? = some t → args[j]? = some v → Value.okWide Tryz.prog W .any base t v)
    (hW : DataW.Whole enc Tryz.prog Tryz.f3.params.toList Rows.fnRightsSpec.vars false W args.toList ds gs before) (hL0 : laidMetH Tryz.prog Rows.fnRightsRow.laid W) :
    Calls Tryz.prog 3 args W fun e W' => ∃ v, e = .returned v ∧ Rows.fnRightsSpec.post enc Tryz.prog Tryz.f3 false true false false W args v W' := by
  have hL : laidMet Tryz.prog Rows.fnRightsRow.laid W := hL0
  have hW' := hW
  obtain ⟨p, q, hA0, hV, rfl, hfz, hnd⟩ := hW
  have hA : DataW.TrodAll enc Tryz.prog W 0 (fun _ => true) true Tryz.f3.params.toList args.toList ds p := hA0
  rw [Tryz.params3] at hA hval
  obtain ⟨v0, vs0, d0, ds0, p0, q0, hargs, rfl, rfl, h0, r0⟩ := trodAll_cons hA
  obtain ⟨rfl, rfl, rfl⟩ := trodAll_nil r0
  obtain rfl : args = #[v0] := by cases args; simp_all
  obtain ⟨e0, e1, rfl⟩ : ∃ e0 e1, gs = [e0, e1] := by
    have hlen := trodVars_len hV
    match gs, hlen with
    | [x0, x1], _ => exact ⟨x0, x1, rfl⟩
  obtain ⟨a0, len0, cap0, rfl⟩ := okWide_slice Tryz.underlying22 (hval 0 22 v0 rfl rfl)
  have k0 := h0
  have lt0 : ∀ x ∈ p0, x.block < W.heap.size := by obtain ⟨m, hm⟩ := k0; exact DataW.trod_lt m _ _ _ hm
  obtain ⟨z0, w0⟩ : ∃ zs, IsRow .u8 W a0 len0 cap0 zs := by
    obtain ⟨fuel, hf⟩ := h0
    rcases open_ints Tryz.underlying22 Tryz.underlying5 (by kernel_rfl) hf with ⟨hcs, _⟩ | ⟨x, l, c, zs, hcs, _, hl, hm, hz, _, hcell, hwz⟩
    · simp [Value.cells] at hcs
      obtain ⟨rfl, rfl, rfl⟩ := hcs
      exact ⟨[], .inl ⟨rfl, rfl, rfl, rfl⟩⟩
    · simp [Value.cells] at hcs
      obtain ⟨rfl, rfl, rfl⟩ := hcs
      exact ⟨zs, .inr ⟨_, rfl, hl, hm, by simpa using hz, hcell, hwz⟩⟩
  clear hA0
  refine (walk a0 len0 cap0 z0 W w0 (spell.held hL)).mono fun e W' ⟨he, bel⟩ => ?_
  subst he
  exact ⟨_, rfl, _, _, _, [], _, _, hW', trodAll_mk1 (shut_bool Tryz.underlying4 _), (trodAll_cons_mk (Below.trod laidOut (by kernel_rfl) (of_decide_eq_true (by kernel_rfl)) k0 bel lt0) trodAll_mk0), Below.trodVars laidOut bel (by kernel_rfl) hV, bel.frame _, fun h => by cases h⟩

theorem laid_met (os : Os) : laidMet Tryz.prog Rows.fnRightsRow.laid ((laidWorld os).forCall (fun _ _ => 0) ⟨#[], #[.slice none 0 0], []⟩).memory :=
  laidMet_of_run' 8 (by kernel_rfl) (by kernel_rfl)
theorem reads (os : Os) {H : Type} (enc : TypeId × Value → H) : ∃ places, DataW.whole enc Tryz.prog ((laidWorld os).forCall (fun _ _ => 0) ⟨#[], #[.slice none 0 0], []⟩).memory Tryz.f3.params.toList Rows.fnRightsSpec.vars false #[Value.slice none 0 0].toList 8 = some ([.nil], [Rows.laid_loop_example_g01543_impl_keywords, Rows.laid_loop_example_g01543_impl_operators], places) :=
  ⟨MemPlace.row ⟨0, 0, none⟩ 17 ++ MemPlace.row ⟨1, 0, none⟩ 39, by kernel_rfl⟩

set_option maxRecDepth 100000 in
theorem lifted (os : Os) (started : os.Started) (H : Type) (enc : TypeId × Value → H) (F : Stop.Interp) :
    ReturnsInHanded {} Tryz.checked os 3 .any ((OpenSpec.ofChange Rows.fnRightsSpec).preRow enc Tryz.prog Tryz.f3 Rows.fnRightsRow.domain false Rows.fnRightsRow.laid) (((OpenSpec.ofChange Rows.fnRightsSpec).at F).post enc Tryz.prog Tryz.f3 false true false false) := by
  obtain ⟨places, hx⟩ := reads os enc
  refine returnsInHanded_of_row (C := Tryz.checked) (s := OpenSpec.ofChange Rows.fnRightsSpec) own started (by kernel_rfl) Tryz.func3
    (witness_row_at (enc := enc) (C := Tryz.checked) false (laidWorld os) #[.slice none 0 0] rfl (by kernel_rfl) (by kernel_rfl) (by kernel_rfl)
      (OpenSpec.preRow_of_cond 8 hx (by kernel_rfl) (fun k hk => by cases hk) (by kernel_rfl) (laid_met os))) ?_
  intro W base args ds gs before hval hW _ _ _ hL _ _
  exact contract H enc W base args ds gs before hval hW hL

theorem said : Rows.FnRightsSaid :=
  OpenClaim.holds_of_cond 3 Tryz.f3 rfl rfl rfl rfl rfl rfl rfl ⟨rfl, rfl, rfl, rfl, rfl⟩ rfl rfl rfl rfl rfl (by kernel_rfl) Tryz.func3 (by kernel_rfl)
    (of_decide_eq_true (by kernel_rfl)) (by unfold Func.isWrapper; first | (rw [if_pos (by decide +kernel)]; kernel_rfl) | (rw [if_neg (by decide +kernel)]; exact ⟨rfl, rfl⟩))
    (fun os started H enc _ F => by rw [OpenClaim.pre_eq_preRow]; exact lifted os started H enc F)

/-- No parameter wants a stand-in; the program's own looks are as the card says. -/
theorem plain (f : FuncId) (fn : Func) (hf : Tryz.pinned.checked.prog.funcNamed "loop.example/g01543/laws.FnRights" = some f) (hfn : Tryz.pinned.checked.prog.funcs[f]? = some fn) :
    Rows.fnRightsCard.stood.looks = Tryz.pinned.checked.prog.looks [] ∧ ∀ (j : Nat) t, fn.params[j]? = some t → Tryz.pinned.checked.prog.wantsStandIn t = false := by
  obtain rfl : f = 3 := Option.some.inj ((show Tryz.prog.funcNamed "loop.example/g01543/laws.FnRights" = some 3 by kernel_rfl).symm.trans hf) |>.symm
  obtain rfl : fn = Tryz.f3 := (Option.some.inj (Tryz.func3.symm.trans hfn)).symm
  refine ⟨by kernel_rfl, fun j t ht => ?_⟩
  rw [Tryz.params3] at ht
  have hm := Array.mem_of_getElem? ht
  simp only [List.mem_toArray, List.mem_cons, List.not_mem_nil, or_false] at hm
  rcases hm with rfl
  · exact (show Tryz.prog.wantsStandIn 22 = false by kernel_rfl)

end Go.Proofs.YtphccenlflhfjaaGreatDoor.lawRights
namespace Go.Proofs.YtphccenlflhfjaaGreatDoor
/-- The card. -/
theorem fnRights_card : Rows.FnRightsCardSaid :=
  Claim7.holds_tied_plain_at .later [] _ _ _ _ lawRights.said (fun _ h => by cases h) (by kernel_rfl) (fun _ h => by cases h) fnRights_row_tie rfl ⟨rfl, rfl⟩ (by kernel_rfl) rfl lawRights.plain (by kernel_rfl)
end Go.Proofs.YtphccenlflhfjaaGreatDoor
