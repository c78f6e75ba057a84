/-
  spec.l14Drop, spec.NoComments: contracts.
-/
import Derived.Test.YtckeepjfbpphaaaGreatDoorMakeGen
import Derived.Test.YtckeepjfbpphaaaGreatDoorDropMath
import Derived.Test.YtckeepjfbpphaaaGreatDoorTreeOk
namespace Go.Proofs.YtckeepjfbpphaaaGreatDoor.nc
open Go.ChangeShapes Go.WideShapes Go.ChangeAt Go.RowKit
open nd (Nd OwnI IBlk Ints PT PgOut KidV Lies lies_at shape_yes grown_one lt_of_heap Parts makeT sumL)
open rt (treeOk)
open spell (Held held)
set_option linter.unusedVariables false
set_option maxRecDepth 20000

/-- A tree at v, which stays while no block from L on that there is today, but g, changes. -/
def TA (L g : Nat) (v : Value) (q : List Nd) (w : World) : Prop :=
  ∃ a c, v = .slice a q.length c ∧ ∀ w' : World, w.heap.size ≤ w'.heap.size → (∀ k, L ≤ k → k < w.heap.size → k ≠ g → w'.heap[k]? = w.heap[k]?) → Lies w'.heap.size w' a q
theorem TA.lies {L g n c : Nat} {a : Option Addr} {q : List Nd} {w : World} (h : TA L g (.slice a n c) q w) : Lies w.heap.size w a q := by
  obtain ⟨a', c', e, h⟩ := h
  injection e with e _ _
  subst e
  exact h w (Nat.le_refl _) (fun _ _ _ _ => rfl)
theorem TA.step {L g g' : Nat} {v : Value} {q : List Nd} {w w' : World} (h : TA L g v q w) (hs : w.heap.size ≤ w'.heap.size) (hk : ∀ k, L ≤ k → k < w.heap.size → k ≠ g → w'.heap[k]? = w.heap[k]?) (hg : g = g' ∨ w.heap.size ≤ g') : TA L g' v q w' := by
  obtain ⟨a, c, e, h⟩ := h
  refine ⟨a, c, e, fun w2 hs2 hk2 => h w2 (Nat.le_trans hs hs2) (fun k h1 h2 h3 => ?_)⟩
  rw [hk2 k h1 (Nat.lt_of_lt_of_le h2 hs) (fun e => by rcases hg with hg | hg <;> omega)]
  exact hk k h1 h2 h3
theorem ta_of {L g S : Nat} {v : Value} {z : List (Nd × Value)} {r : Nat → Nat} {q : List Nd} {w : World} (hp : PT S v z r w) (hz : z.map (·.1) = q) (hg : g < S) (hL : L ≤ S) : TA L g v q w := by
  obtain ⟨a, c, e⟩ := hp.form
  have hl : z.length = q.length := by rw [← hz]; simp
  rw [hl] at e
  subst e
  refine ⟨a, c, rfl, fun w' hs hk => ?_⟩
  have hp' : PT S (.slice a q.length c) z r w' := by
    obtain ⟨h1, h2, h3, h4, h5⟩ := hp
    refine ⟨⟨h1.1, h1.2.elim .inl (fun ⟨b, cap, cur, hv, hb, hblk, r⟩ => .inr ⟨b, cap, cur, hv, hb, ?_, r⟩)⟩, fun i hi => ?_, h3, h4, fun i hi => Nat.lt_of_lt_of_le (h5 i hi) hs⟩
    · rw [hk b (by omega) (lt_of_heap hblk) (by omega)]
      exact hblk
    · rcases h2 i hi with h2 | ⟨cap, e1, e2, e3⟩
      · exact .inl h2
      · exact .inr ⟨cap, e1, e2.of_block (hk (r i) (by omega) (h5 i hi) (by omega)), e3⟩
  rw [← hz]
  exact hp'.lies

/-! ### A row of slices, built by append -/
theorem Tryz.infoNodes : (Tryz.prog.info? 24).map (fun i => (i.zero, i.size, i.bytes)) = some (some (.slice none 0 0), 1, 24) := by kernel_rfl
def OwnP (B : Nat) (v : Value) (vs : List Value) (w : World) : Prop := w.ownsRow B 24 1 v vs.length vs
theorem OwnP.lit {B : Nat} {w : World} (hB : B ≤ w.heap.size) : OwnP B (.slice (some ⟨w.heap.size, 0, none⟩) 0 0) [] (w.alloc (.cells #[] 24)) :=
  World.ownsRow_lit w #[] 0 hB (by unfold maxLen; omega) rfl
theorem wpList_append_tree (w : World) (u : Value) {ops : Array Oper} {rest : List Oper} {o : Oper} {a : Act} {Q : Exit → Act → World → Prop} (hgd : o.guard = none) (s x : Operand)
    (ho : o.op = .call { callee := .builtin .append, args := #[s, x], argTypes := #[45, 45] }) (B : Nat) (v : Value) (vs : List Value) (hs : a.eval s = v)
    (hown : OwnP B v vs w) (hx : a.eval x = .slice (some ⟨w.heap.size, 0, none⟩) 1 1) (hu : u.oneCell' = true) (hn : vs.length ≤ 1048576) (hB : B ≤ w.heap.size)
    (h : ∀ g cap w', OwnP B (.slice (some ⟨g, 0, none⟩) (vs.length + 1) cap) (vs ++ [u]) w' → w.grownBy w' v.ownBlock → (v.ownBlock = some g ∨ w.heap.size ≤ g) → wpList Tryz.prog ops Q rest (a.put o.dst (.slice (some ⟨g, 0, none⟩) (vs.length + 1) cap)) w') :
    wpList Tryz.prog ops Q (o :: rest) a (w.alloc (.cells #[u] 24)) := by
  obtain ⟨i0, hi, hz0, hz1, hz2⟩ := info_parts Tryz.infoNodes
  refine wpList_append_lies _ hgd s x 45 ho B 24 i0 _ 1 24 Tryz.underlying45 hi hz0 hz1 hz2 rfl (by decide) v vs.length vs hs (hown.alloc _) ⟨w.heap.size, 0, none⟩ 1 1 [u] hx rfl ?_ ?_ (by decide) (by unfold maxLen; omega) (by omega) (by simp; omega) (w.heap.size + 1) (by simp) ?_
  · intro j y hj
    rw [show ((⟨w.heap.size, 0, none⟩ : Addr).add j) = ⟨w.heap.size, j, none⟩ by unfold Addr.add; split <;> simp_all]
    rw [cell_of_row _ w.heap.size j _ _ _ (heap_alloc_new w _)]
    simpa using hj
  · intro y hy
    simp at hy
    rcases hy with rfl
    exact hu
  · intro g cap w' hown' hg hor _
    refine h g cap w' ?_ ?_ (hor.imp id (fun h => by omega))
    · unfold OwnP
      rw [List.length_append]
      exact hown'
    · exact ⟨hg.os, hg.tape, hg.output, by have := hg.size; simp at this; omega, fun k hk hne => by rw [hg.block k (by simp; omega) hne]; exact Below.heap_alloc w _ k hk⟩

/-- What the loop holds: the row at block g, the trees so far. -/
structure DS (L g c : Nat) (vs : List Value) (qs : List (List Nd)) (w : World) : Prop where
  own : OwnP L (.slice (some ⟨g, 0, none⟩) vs.length c) vs w
  ln : vs.length = qs.length
  tr : ∀ i (h1 : i < vs.length) (h2 : i < qs.length), TA L g vs[i] qs[i] w
  lw : L ≤ w.heap.size
section
variable {L g c : Nat} {w w1 : World} {vs : List Value} {qs : List (List Nd)}
theorem DS.g_lt (h : DS L g c vs qs w) : L ≤ g ∧ g < w.heap.size := World.ownsRow.lt h.own g rfl
theorem DS.start (hL : L ≤ w.heap.size) : DS L w.heap.size 0 [] [] (w.alloc (.cells #[] 24)) :=
  ⟨OwnP.lit hL, rfl, fun i h1 _ => by simp at h1, by simp; omega⟩
theorem DS.over (h : DS L g c vs qs w) (hb : Below w.heap.size w w1) : DS L g c vs qs w1 := by
  refine ⟨⟨h.own.1, h.own.2.elim .inl (fun ⟨b, cap, cur, hv, hg, hblk, r⟩ => .inr ⟨b, cap, cur, hv, hg, ?_, r⟩)⟩, h.ln, fun i h1 h2 => (h.tr i h1 h2).step hb.size (fun k hk hk2 _ => hb.block k hk2) (.inl rfl), Nat.le_trans h.lw hb.size⟩
  rw [hb.block b (lt_of_heap hblk)]
  exact hblk
theorem DS.push {g' c' : Nat} {u : Value} {q : List Nd} {w2 : World} (h : DS L g c vs qs w) (hu : TA L g u q w) (ho : OwnP L (.slice (some ⟨g', 0, none⟩) (vs.length + 1) c') (vs ++ [u]) w2) (hg : w.grownBy w2 (some g)) (hor : g = g' ∨ w.heap.size ≤ g') : DS L g' c' (vs ++ [u]) (qs ++ [q]) w2 := by
  have hst : ∀ {v : Value} {t : List Nd}, TA L g v t w → TA L g' v t w2 := fun ht => ht.step hg.size (fun k _ hk hne => hg.block k hk (by simpa using hne)) hor
  refine ⟨by rw [List.length_append]; exact ho, by simp [h.ln], fun i h1 h2 => ?_, Nat.le_trans h.lw hg.size⟩
  by_cases he : i < vs.length
  · rw [List.getElem_append_left he, List.getElem_append_left (by rw [← h.ln]; exact he)]
    exact hst (h.tr i he _)
  · have e0 : i = vs.length := by simp at h1; omega
    subst e0
    have e1 : (vs ++ [u])[vs.length] = u := by simp
    have e2 : (qs ++ [q])[vs.length] = q := by simp [h.ln]
    rw [e1, e2]
    exact hst hu
theorem DS.parts (h : DS L g c vs qs w) : Parts w.heap.size w (some ⟨g, 0, none⟩) qs := by
  refine .inr ⟨g, 0, rfl, h.g_lt.2, fun i hi => ?_⟩
  have hv : i < vs.length := by rw [h.ln]; exact hi
  have ht := h.tr i hv hi
  obtain ⟨ai, ci, e, _⟩ := id ht
  rw [e] at ht
  refine ⟨ai, ci, ?_, ht.lies⟩
  rw [World.ownsRow.cellAt h.own (0 + i) (by omega)]
  simp [hv, e]
end
def RelDr (w : World) (l : List Nd) (f : Nat) (ks : List Int) (v j : Value) (wr : World) : Prop :=
  ∃ (J g c : Nat) (vs : List Value) (qs : List (List Nd)), J ≤ ks.length ∧ j = .int .i64 (J : Int) ∧ v = .slice (some ⟨g, 0, none⟩) vs.length c ∧ DS w.heap.size g c vs qs wr ∧ qs = ((ks.take J).filter (fun k => !(com l k.toNat))).map (fun k => dropF l f k.toNat) ∧ Below w.heap.size w wr

set_option maxHeartbeats 3200000 in
theorem drop_any (l : List Nd) (a : Option Addr) (cap : Nat) (hn : l.length ≤ 1048576) (hk : ∀ t ∈ l, t.kids.length ≤ 1048576) (ht : treeOk l = true) :
    ∀ f i (w : World), i < f → i < l.length → Lies w.heap.size w a l → Calls Tryz.prog 13 #[.slice a l.length cap, .int .i64 (i : Int)] w (PgOut (dropF l f i) w) := by
  have HK := Lib.hid hk
  have HT := Lib.hid ht
  have HSH := Lib.hid (rt.tree_parts ht).1
  have HN := Lib.hid hn
  clear hk ht hn
  intro f
  induction f with
  | zero => intro i w hi; omega
  | succ f ih =>
    intro i w hi hil hc
    have HC := Lib.hid hc
    have IH := Lib.hid ih
    obtain ⟨b, o, rfl, hb, hcell⟩ := lies_at hc hil
    obtain ⟨ak, ck, h5, hik⟩ := hcell i hil
    have HCELL := Lib.hid hcell
    have HH5 := Lib.hid h5
    have HIK := Lib.hid hik
    have HPS := Lib.hid (parts_sum HT.out (f := f) (i := i) (by omega) hil)
    have HG := Lib.hid (getD_at hil)
    have HKI := Lib.hid (fun k hk => nd.sh_kid HSH.out hil (k := k) hk)
    have HKO := Lib.hid (show ∀ j, j < f → j < l.length → ∀ t ∈ dropF l f j, t.kids.length ≤ 1048576 from fun j hj hl => kids_le_of HT.out hj hl HK.out)
    obtain ⟨t, htt⟩ : ∃ t, t = l[i] := ⟨_, rfl⟩
    rw [← htt] at HH5 HIK HPS HG HKI
    have HD := Lib.hid (show dropF l (f + 1) i = makeT t ((t.kids.filter (fun k => !(com l k.toNat))).map (fun k => dropF l f k.toNat)) by rw [← HG.out]; rfl)
    have hil1 : (i : Int) < (l.length : Int) := by omega
    have hi0 : (0 : Int) ≤ (i : Int) := by omega
    have hkl : t.kids.length ≤ 400 := HPS.out.2
    have HI := Lib.hid hi
    have HIL := Lib.hid hil
    have HS0 := Lib.hid (DS.start (L := w.heap.size) (w := w) (Nat.le_refl _))
    clear hc ih hcell h5 hik htt hi hil
    go_enter Tryz.func13, Tryz.ntmps13
    go_wp2
    go_loopw [5, 6] (fun v j wr => RelDr w l f t.kids v j wr) (fun _ j _ => t.kids.length - (intOf j).toNat)
    case atStart => exact ⟨0, _, 0, [], [], by omega, rfl, rfl, HS0.out, rfl, (Below.refl _ _).alloc (Nat.le_refl _) _⟩
    case round =>
      obtain ⟨J, g, c, vs, qs, hJ, rfl, rfl, hds, hqs, hbel⟩ := hrel
      have HDS := Lib.hid hds
      have HQ := Lib.hid hqs
      have HB := Lib.hid hbel
      have hql : qs.length ≤ J := by
        rw [hqs, List.length_map]
        refine Nat.le_trans (List.length_filter_le _ _) ?_
        simp
        omega
      have hvl : vs.length ≤ 400 := by rw [hds.ln]; omega
      obtain ⟨c0, c1, c2, c3, c4⟩ := HH5.out.keep hbel hb
      clear hds hqs hbel hql
      by_cases hlt : J < t.kids.length
      · obtain ⟨b2, o2, rfl, hb2, hcell2⟩ := nd.ints_at HIK.out hlt
        have d0 := (HB.out.cell (p := ⟨b2, o2 + J, none⟩) hb2).trans (hcell2 J hlt)
        have hkm := List.getElem_mem hlt
        obtain ⟨k0, k1, -⟩ := HKI.out t.kids[J] hkm
        obtain ⟨q, hq⟩ : ∃ q : Nat, t.kids[J] = (q : Int) := ⟨t.kids[J].toNat, by omega⟩
        rw [hq] at d0 k1
        have hqi : q < i := by omega
        have hql : q < l.length := by have := HIL.out; omega
        obtain ⟨ak2, ck2, h52, -⟩ := HCELL.out q hql
        obtain ⟨g0, g1, g2, g3, g4⟩ := h52.keep HB.out hb
        have hcom : com l q = (l[q].k == 34) := by unfold com; rw [getD_at hql]
        have HTK := Lib.hid (show ((t.kids.take (J + 1)).filter (fun k => !(com l k.toNat))).map (fun k => dropF l f k.toNat) = if com l q = true then qs else qs ++ [dropF l f q] by
          rw [List.take_succ_eq_append_getElem hlt, hq, List.filter_append, List.map_append, ← HQ.out]
          cases hcq : com l q
          · rw [List.filter_cons_of_pos (by rw [Int.toNat_natCast, hcq]; rfl)]
            simp
          · rw [List.filter_cons_of_neg (by rw [Int.toNat_natCast, hcq]; simp)]
            simp)
        obtain ⟨x, hx⟩ : ∃ x, x = l[q].k := ⟨_, rfl⟩
        rw [← hx] at g0 hcom
        have hj1 : (J : Int) < (t.kids.length : Int) := by omega
        have hj0 : (0 : Int) ≤ (J : Int) := by omega
        have hq0 : (0 : Int) ≤ (q : Int) := by omega
        have hq1 : (q : Int) < (l.length : Int) := by omega
        have hgl := HDS.out.g_lt
        clear hcell2 hkm k0 k1 hq h52 g1 g2 g3 g4 hx
        by_cases h34 : x = 34
        · have HN := Lib.hid (show com l q = true by rw [hcom]; simpa using h34)
          subst h34
          clear hcom
          go_wp2
          go_roundw
          case rel => exact ⟨J + 1, g, c, vs, qs, by omega, by go_num, rfl, HDS.out, by rw [HTK.out, HN.out]; rfl, HB.out⟩
          case measure => simp [intOf]; omega
        · have HN := Lib.hid (show com l q = false by rw [hcom]; simpa using h34)
          have hx1 : (x != 34) = true := by simpa using h34
          clear hcom h34
          go_wp2_with (first | (go_at_call 13; refine (IH.out q _ (by have := HI.out; omega) hql ((HC.out.keep HB.out (Nat.le_refl _)).up HB.out.size)).mono ?_; rintro e w2 ⟨u, z, r, rfl, hz, pt2, b2', ge2⟩; obtain ⟨ua, uc, rfl⟩ := pt2.form; have HU := Lib.hid (ta_of (L := w.heap.size) pt2 hz hgl.2 HB.out.size); have HD2 := Lib.hid (HDS.out.over b2'); have HB2 := Lib.hid (HB.out.trans (b2'.mono HB.out.size)); clear pt2 b2' ge2) | (at_builtin; go_loud (refine wpList_append_tree _ _ rfl _ _ rfl w.heap.size (.slice (some ⟨g, 0, none⟩) vs.length c) vs rfl HD2.out.own rfl rfl (by omega) HD2.out.lw ?_); intro g4 c4 w4 own4 gr4 or4))
          have HD4 := Lib.hid (HD2.out.push HU.out own4 gr4 (or4.imp (fun e => by simpa [Value.ownBlock] using e) id))
          have HB4 := Lib.hid (HB2.out.grown gr4 HB2.out.size (fun k e => by cases e; exact hgl.1))
          go_wp2
          go_roundw
          case rel => exact ⟨J + 1, g4, c4, _, _, by omega, by go_num, by rw [List.length_append]; rfl, HD4.out, by rw [HTK.out, HN.out]; rfl, HB4.out⟩
          case measure => simp [intOf]; omega
      · obtain rfl : J = t.kids.length := by omega
        have HQE := Lib.hid (show qs = (t.kids.filter (fun k => !(com l k.toNat))).map (fun k => dropF l f k.toNat) by rw [HQ.out, List.take_length])
        have HSUM := Lib.hid (show sumL qs ≤ 100000 by rw [HQE.out]; have := HPS.out.1; omega)
        have HLEN := Lib.hid (show qs.length ≤ 1000 by rw [← HDS.out.ln]; omega)
        have HQK := Lib.hid (show ∀ q ∈ qs, ∀ s ∈ q, s.kids.length ≤ 1048576 from fun q hq s hs => by
          rw [HQE.out] at hq
          obtain ⟨k, hk, rfl⟩ := List.mem_map.1 hq
          have h1 := HKI.out k (List.mem_filter.1 hk).1
          have := HI.out
          have := HIL.out
          exact HKO.out k.toNat (by omega) (by omega) s hs)
        have HLN := Lib.hid HDS.out.ln
        go_wp2_with fail
        rw [HLN.out]
        refine (nd.make_gen t ak t.kids.length ck qs (some ⟨g, 0, none⟩) c _ HDS.out.parts HSUM.out HLEN.out HQK.out).mono ?_
        rintro e w5 ⟨u, z, r, rfl, hz, pt5, b5, ge5⟩
        have HPT := Lib.hid pt5
        have HZ := Lib.hid hz
        have HGE := Lib.hid ge5
        have HB5 := Lib.hid (HB.out.trans (b5.mono HB.out.size))
        clear pt5 hz ge5 b5
        go_wp2
        go_ret
        refine ⟨u, z, r, rfl, ?_, HPT.out.up HB.out.size, HB5.out, fun i hi => Nat.le_trans HB.out.size (HGE.out i hi)⟩
        rw [HZ.out, HD.out, HQE.out]
set_option maxHeartbeats 1600000 in
theorem spec_nc (l : List Nd) (a : Option Addr) (cap : Nat) (w : World) (hn : l.length ≤ 1048576) (hk : ∀ t ∈ l, t.kids.length ≤ 1048576) (hs : ∀ t ∈ l, t.s.size ≤ 1048576 ∧ t.t.size ≤ 1048576) (hc : Lies w.heap.size w a l) :
    Calls Tryz.prog 5 #[.slice a l.length cap] w (PgOut (ncF l) w) := by
  have HC := Lib.hid hc
  have HK := Lib.hid hk
  have HX := Lib.hid (rt.spec_tree l a cap w hn hk hs hc)
  clear hc hk hs
  cases ht : treeOk l
  · have HT := Lib.hid ht
    have HF := Lib.hid (show ncF l = [] by unfold ncF; rw [ht]; rfl)
    clear ht
    go_enter Tryz.func5, Tryz.ntmps5
    go_wp2_with fail
    refine HX.out.mono ?_
    rintro e w2 ⟨he, b2⟩
    rw [HT.out] at he
    subst he
    have hb2 := b2.size
    have HP := Lib.hid (PT.lit (B := w.heap.size) (w := w2) hb2)
    have HB := Lib.hid (b2.alloc hb2 (.cells #[] 36))
    go_wp2
    go_ret
    exact ⟨_, [], _, rfl, by rw [HF.out]; rfl, HP.out, HB.out, fun i hi => by simp at hi⟩
  have hsh := (rt.tree_parts ht).1
  have h1 := (shape_yes hsh).1
  obtain ⟨R, hR⟩ : ∃ R : Nat, l.length = R + 1 := ⟨l.length - 1, by omega⟩
  have hR1 : (l.length : Int) - 1 = (R : Int) := by omega
  have HT := Lib.hid ht
  have HF := Lib.hid (show ncF l = dropF l l.length R by unfold ncF; rw [ht, if_pos rfl, ← drop_keep ht, show l.length - 1 = R by omega])
  have HR := Lib.hid hR
  clear hsh h1 ht hR
  go_enter Tryz.func5, Tryz.ntmps5
  go_wp2_with fail
  refine HX.out.mono ?_
  rintro e w2 ⟨he, b2⟩
  rw [HT.out] at he
  subst he
  have HB := Lib.hid b2
  clear b2
  go_wp2_with fail
  refine (drop_any l a cap hn HK.out HT.out l.length R _ (by have := HR.out; omega) (by have := HR.out; omega) ((HC.out.keep HB.out (Nat.le_refl _)).up HB.out.size)).mono ?_
  rintro e w3 ⟨u, z, r, rfl, hz, pt3, b3, ge3⟩
  have HPT := Lib.hid pt3
  have HZ := Lib.hid hz
  have HGE := Lib.hid ge3
  have HB3 := Lib.hid (HB.out.trans (b3.mono HB.out.size))
  clear pt3 hz ge3 b3
  go_wp2
  go_ret
  exact ⟨u, z, r, rfl, by rw [HZ.out, HF.out], HPT.out.up HB.out.size, HB3.out, fun i hi => Nat.le_trans HB.out.size (HGE.out i hi)⟩
end Go.Proofs.YtckeepjfbpphaaaGreatDoor.nc
