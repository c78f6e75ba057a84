/-
  A list of drawn trees that a loop builds by append (spec.l7List), and an operator picked out of a list.
-/
import Derived.Test.YtldkhdoboieibaaSmall
namespace Go.Proofs.Ytldkhdoboieibaa.draw
open Go.ChangeShapes Go.WideShapes Go.ChangeAt Go.RowKit
open nd
set_option linter.unusedVariables false

/-- A tree at v, which stays while no block from L on that there is today, but g, changes. -/
def TA (L g : Nat) (v : Value) (q : List Nd) (w : World) : Prop :=
  ∃ a c, v = .slice a q.length c ∧ ∀ w' : World, w.heap.size ≤ w'.heap.size → (∀ k, L ≤ k → k < w.heap.size → k ≠ g → w'.heap[k]? = w.heap[k]?) → Lies w'.heap.size w' a q
theorem TA.lies {L g n c : Nat} {a : Option Addr} {q : List Nd} {w : World} (h : TA L g (.slice a n c) q w) : Lies w.heap.size w a q := by
  obtain ⟨a', c', e, h⟩ := h
  injection e with e _ _
  subst e
  exact h w (Nat.le_refl _) (fun _ _ _ _ => rfl)
theorem TA.step {L g g' : Nat} {v : Value} {q : List Nd} {w w' : World} (h : TA L g v q w) (hs : w.heap.size ≤ w'.heap.size) (hk : ∀ k, L ≤ k → k < w.heap.size → k ≠ g → w'.heap[k]? = w.heap[k]?) (hg : g = g' ∨ w.heap.size ≤ g') : TA L g' v q w' := by
  obtain ⟨a, c, e, h⟩ := h
  refine ⟨a, c, e, fun w2 hs2 hk2 => h w2 (Nat.le_trans hs hs2) (fun k h1 h2 h3 => ?_)⟩
  rw [hk2 k h1 (Nat.lt_of_lt_of_le h2 hs) (fun e => by rcases hg with hg | hg <;> omega)]
  exact hk k h1 h2 h3
theorem TR.apart {p L g S : Nat} {v : Value} {q : List Nd} {w : World} (h : TR p S v q w) (hg : g < S) (hL : L ≤ S) : TA L g v q w := by
  obtain ⟨a, c, e⟩ := h.form
  subst e
  refine ⟨a, c, rfl, fun w' hs hk => ?_⟩
  obtain ⟨h0, z, r, hz, hp, hr⟩ := h
  have hp' : PT S (.slice a q.length c) z r w' := by
    obtain ⟨h1, h2, h3, h4, h5⟩ := hp
    refine ⟨⟨h1.1, h1.2.elim .inl (fun ⟨b, cap, cur, hv, hb, hblk, r⟩ => .inr ⟨b, cap, cur, hv, hb, ?_, r⟩)⟩, fun i hi => ?_, h3, h4, fun i hi => Nat.lt_of_lt_of_le (h5 i hi) hs⟩
    · rw [hk b (by omega) (lt_of_heap hblk) (by omega)]
      exact hblk
    · rcases h2 i hi with h2 | ⟨cap, e1, e2, e3⟩
      · exact .inl h2
      · exact .inr ⟨cap, e1, e2.of_block (hk (r i) (by omega) (h5 i hi) (by omega)), e3⟩
  rw [← hz]
  exact hp'.lies

/-! ### A row of slices, built by append -/
theorem Try.infoNodes : (Try.prog.info? 65).map (fun i => (i.zero, i.size, i.bytes)) = some (some (.slice none 0 0), 1, 24) := by kernel_rfl
def OwnP (B : Nat) (v : Value) (vs : List Value) (w : World) : Prop := w.ownsRow B 65 1 v vs.length vs
theorem OwnP.lit {B : Nat} {w : World} (hB : B ≤ w.heap.size) : OwnP B (.slice (some ⟨w.heap.size, 0, none⟩) 0 0) [] (w.alloc (.cells #[] 65)) :=
  World.ownsRow_lit w #[] 0 hB (by unfold maxLen; omega) rfl
theorem wpList_append_tree (w : World) (u : Value) {ops : Array Oper} {rest : List Oper} {o : Oper} {a : Act} {Q : Exit → Act → World → Prop} (hgd : o.guard = none) (s x : Operand)
    (ho : o.op = .call { callee := .builtin .append, args := #[s, x], argTypes := #[80, 80] }) (B : Nat) (v : Value) (vs : List Value) (hs : a.eval s = v)
    (hown : OwnP B v vs w) (hx : a.eval x = .slice (some ⟨w.heap.size, 0, none⟩) 1 1) (hu : u.oneCell' = true) (hn : vs.length ≤ 1048576) (hB : B ≤ w.heap.size)
    (h : ∀ g cap w', OwnP B (.slice (some ⟨g, 0, none⟩) (vs.length + 1) cap) (vs ++ [u]) w' → w.grownBy w' v.ownBlock → (v.ownBlock = some g ∨ w.heap.size ≤ g) → wpList Try.prog ops Q rest (a.put o.dst (.slice (some ⟨g, 0, none⟩) (vs.length + 1) cap)) w') :
    wpList Try.prog ops Q (o :: rest) a (w.alloc (.cells #[u] 65)) := by
  obtain ⟨i0, hi, hz0, hz1, hz2⟩ := info_parts Try.infoNodes
  refine wpList_append_lies _ hgd s x 80 ho B 65 i0 _ 1 24 Try.underlying80 hi hz0 hz1 hz2 rfl (by decide) v vs.length vs hs (hown.alloc _) ⟨w.heap.size, 0, none⟩ 1 1 [u] hx rfl ?_ ?_ (by decide) (by unfold maxLen; omega) (by omega) (by simp; omega) (w.heap.size + 1) (by simp) ?_
  · intro j y hj
    rw [show ((⟨w.heap.size, 0, none⟩ : Addr).add j) = ⟨w.heap.size, j, none⟩ by unfold Addr.add; split <;> simp_all]
    rw [cell_of_row _ w.heap.size j _ _ _ (heap_alloc_new w _)]
    simpa using hj
  · intro y hy
    simp at hy
    rcases hy with rfl
    exact hu
  · intro g cap w' hown' hg hor _
    refine h g cap w' ?_ ?_ (hor.imp id (fun h => by omega))
    · unfold OwnP
      rw [List.length_append]
      exact hown'
    · exact ⟨hg.os, hg.tape, hg.output, by have := hg.size; simp at this; omega, fun k hk hne => by rw [hg.block k (by simp; omega) hne]; exact Below.heap_alloc w _ k hk⟩

/-- What the loop holds: the row at block g, the trees so far, the cursor at s. -/
structure LS (B p len cap : Nat) (a : Option Addr) (zs : List Int) (L g c : Nat) (vs : List Value) (qs : List (List Nd)) (s : St) (w : World) : Prop where
  own : OwnP L (.slice (some ⟨g, 0, none⟩) vs.length c) vs w
  ln : vs.length = qs.length
  tr : ∀ i (h1 : i < vs.length) (h2 : i < qs.length), TA L g vs[i] qs[i] w
  cur : In B w p a len cap zs s
  lw : L ≤ w.heap.size
  pw : p < L
section
variable {B p len cap L g c : Nat} {a : Option Addr} {zs : List Int} {W w w1 : World} {vs : List Value} {qs : List (List Nd)} {s s1 : St}
theorem LS.g_lt (h : LS B p len cap a zs L g c vs qs s w) : L ≤ g ∧ g < w.heap.size := World.ownsRow.lt h.own g rfl
theorem LS.start (H : In B w p a len cap zs s) (hL : L ≤ w.heap.size) (hp : p < L) : LS B p len cap a zs L w.heap.size 0 [] [] s (w.alloc (.cells #[] 65)) :=
  ⟨OwnP.lit hL, rfl, fun i h1 _ => by simp at h1, H.keep ((Below.refl w.heap.size w).alloc (Nat.le_refl _) _) H.lt, by simp; omega, hp⟩
/-- A draw beside it. -/
theorem LS.next (h : LS B p len cap a zs L g c vs qs s w) (H : In B w1 p a len cap zs s1) (hg : w.grownBy w1 (some p)) : LS B p len cap a zs L g c vs qs s1 w1 := by
  have hgl := h.g_lt
  have hpw := h.pw
  refine ⟨World.ownsRow.kept h.own hg (.inr (by simp [Value.ownBlock]; omega)), h.ln, fun i h1 h2 => (h.tr i h1 h2).step hg.size (fun k hk hk2 _ => hg.block k hk2 (by simp; omega)) (.inl rfl), H, Nat.le_trans h.lw hg.size, h.pw⟩
/-- New memory beside it. -/
theorem LS.over (h : LS B p len cap a zs L g c vs qs s w) (hb : Below w.heap.size w w1) : LS B p len cap a zs L g c vs qs s w1 :=
  h.next (h.cur.keep hb h.cur.lt) (grown_below ⟨rfl, rfl, rfl, Nat.le_refl _, fun _ _ _ => rfl⟩ hb rfl)
/-- A cell of a block below L set. -/
theorem LS.set (h : LS B p len cap a zs L g c vs qs s w) (b j : Nat) (u : Value) (hb : b < L) (hp : p < b) : LS B p len cap a zs L g c vs qs s (w.setCell ⟨b, j, none⟩ u) := by
  have hgl := h.g_lt
  have hbl : Below b w (w.setCell ⟨b, j, none⟩ u) := (Below.refl b w).setCell (p := ⟨b, j, none⟩) (Nat.le_refl _) u
  have hgr : w.grownBy (w.setCell ⟨b, j, none⟩ u) (some b) := grown_one w b j u
  refine ⟨World.ownsRow.kept h.own hgr (.inr (by simp [Value.ownBlock]; omega)), h.ln, fun i h1 h2 => (h.tr i h1 h2).step hgr.size (fun k hk hk2 _ => hgr.block k hk2 (by simp; omega)) (.inl rfl), h.cur.keep hbl hp, Nat.le_trans h.lw hgr.size, h.pw⟩
theorem LS.push {S g' c' : Nat} {u : Value} {q : List Nd} {w2 : World} (h : LS B p len cap a zs L g c vs qs s w) (hu : TR p S u q w) (hS : g < S) (ho : OwnP L (.slice (some ⟨g', 0, none⟩) (vs.length + 1) c') (vs ++ [u]) w2) (hg : w.grownBy w2 (some g)) (hor : g = g' ∨ w.heap.size ≤ g') : LS B p len cap a zs L g' c' (vs ++ [u]) (qs ++ [q]) s w2 := by
  have hgl := h.g_lt
  have hpw := h.pw
  have hst : ∀ {v : Value} {t : List Nd}, TA L g v t w → TA L g' v t w2 := fun ht => ht.step hg.size (fun k _ hk hne => hg.block k hk (by simpa using hne)) hor
  refine ⟨by rw [List.length_append]; exact ho, by simp [h.ln], fun i h1 h2 => ?_, h.cur.keep (below_of hg hgl.1 h.lw) hpw, Nat.le_trans h.lw hg.size, h.pw⟩
  by_cases he : i < vs.length
  · rw [List.getElem_append_left he, List.getElem_append_left (by rw [← h.ln]; exact he)]
    exact hst (h.tr i he _)
  · have e0 : i = vs.length := by simp at h1; omega
    subst e0
    have e1 : (vs ++ [u])[vs.length] = u := by simp
    have e2 : (qs ++ [q])[vs.length] = q := by simp [h.ln]
    rw [e1, e2]
    exact hst (hu.apart hS (by omega))
/-- What an append leaves of what came in. -/
theorem LS.grown {w2 : World} (h : LS B p len cap a zs L g c vs qs s w) (h0 : W.grownBy w (some p)) (hW : W.heap.size ≤ L) (hg : w.grownBy w2 (some g)) : W.grownBy w2 (some p) :=
  grown_below h0 (below_of hg (Nat.le_trans hW h.g_lt.1) h0.size) rfl
theorem LS.parts (h : LS B p len cap a zs L g c vs qs s w) : Parts w.heap.size w (some ⟨g, 0, none⟩) qs := by
  refine .inr ⟨g, 0, rfl, h.g_lt.2, fun i hi => ?_⟩
  have hv : i < vs.length := by rw [h.ln]; exact hi
  have ht := h.tr i hv hi
  obtain ⟨ai, ci, e, _⟩ := id ht
  rw [e] at ht
  refine ⟨ai, ci, ?_, ht.lies⟩
  rw [World.ownsRow.cellAt h.own (0 + i) (by omega)]
  simp [hv, e]
end
/-- What a function that draws a list of trees answers. -/
def LOut (B p : Nat) (a : Option Addr) (len cap : Nat) (zs : List Int) (qs : List (List Nd)) (s' : St) (w : World) (e : Ending) (w' : World) : Prop :=
  ∃ g c vs, e = .returned (.slice (some ⟨g, 0, none⟩) qs.length c) ∧ LS B p len cap a zs w.heap.size g c vs qs s' w' ∧ w.grownBy w' (some p)

theorem times_snoc {σ T : Type} (E : σ → T × σ) : ∀ n s, timesG E (n + 1) s = ((timesG E n s).1 ++ [(E (timesG E n s).2).1], (E (timesG E n s).2).2) := by
  intro n
  induction n with
  | zero => intro s; rfl
  | succ n ih =>
    intro s
    show ((E s).1 :: (timesG E (n + 1) (E s).2).1, (timesG E (n + 1) (E s).2).2) = _
    rw [ih]
    rfl
theorem times_len {σ T : Type} (E : σ → T × σ) : ∀ n s, (timesG E n s).1.length = n := by
  intro n
  induction n with
  | zero => intro s; rfl
  | succ n ih => intro s; simp [timesG, ih]
def RelList (B p len cap : Nat) (a : Option Addr) (zs : List Int) (W : World) (E : St → List Nd × St) (N : Nat) (s : St) (v n : Value) (wr : World) : Prop :=
  ∃ (I g c : Nat) (vs : List Value), I ≤ N ∧ n = .int .i64 ((N : Int) - I) ∧ v = .slice (some ⟨g, 0, none⟩) I c ∧ LS B p len cap a zs W.heap.size g c vs (timesG E I s).1 (timesG E I s).2 wr ∧ W.grownBy wr (some p)

set_option maxHeartbeats 1600000 in
theorem list_ok {B p len cap : Nat} {w : World} {a : Option Addr} {zs : List Int} {s : Nat × Int} (least most : Nat) (D : Int) (E : St → List Nd × St) (hlm : least ≤ most) (hm : most ≤ 200) (h1 : ExprC B p len cap a zs 46 D E) (H : In B w p a len cap zs s) :
    Calls Try.prog 55 #[.pointer (some ⟨p, 0, none⟩), .int .i64 least, .int .i64 most, .int .i64 D] w (LOut B p a len cap zs (listG (exactG zs) E least most s).1 (listG (exactG zs) E least most s).2 w) := by
  have HI := Lib.hid H
  have H1 := Lib.hid h1
  clear H h1
  have hb := belowF_bd zs ((most : Int) - least + 1) s (by omega)
  obtain ⟨K, hK⟩ : ∃ K : Nat, (belowF zs ((most : Int) - least + 1) s).1 = K := ⟨(belowF zs ((most : Int) - least + 1) s).1.toNat, by omega⟩
  obtain ⟨t, ht⟩ : ∃ t, t = (belowF zs ((most : Int) - least + 1) s).2 := ⟨_, rfl⟩
  have HK := Lib.hid hK
  have HT := Lib.hid ht
  rw [hK] at hb
  obtain ⟨N, hN⟩ : ∃ N : Nat, N = least + K := ⟨_, rfl⟩
  have HN := Lib.hid hN
  have hNb : N ≤ 200 := by omega
  have HQ := Lib.hid (show listG (exactG zs) E least most s = timesG E N t by
    have e : (exactG zs).bl (most - least + 1) s = (K, t) := by
      show ((belowF zs ((most - least + 1 : Nat) : Int) s).1.toNat, (belowF zs ((most - least + 1 : Nat) : Int) s).2) = _
      rw [show ((most - least + 1 : Nat) : Int) = (most : Int) - least + 1 by omega, hK, Int.toNat_natCast, ← ht]
    unfold listG
    rw [e, hN])
  have HP := HI.out.lt
  have hq1 : ((least : Int) + (K : Int)) = (N : Int) := by omega
  clear hK ht hN
  go_enter Try.func55, Try.ntmps55
  have L0 := Lib.hid (LS.start HI.out (Nat.le_refl _) HP)
  have HG0 := Lib.hid (grown_below (p := p) ⟨rfl, rfl, rfl, Nat.le_refl _, fun _ _ _ => rfl⟩ ((Below.refl w.heap.size w).alloc (Nat.le_refl _) (.cells #[] 65)) rfl)
  go_wp2_with fail
  refine (below_any _ L0.out.cur).mono ?_
  rintro e w1 ⟨he, I1, G1⟩
  rw [HK.out] at he
  subst he
  rw [← HT.out] at I1
  have L1 := Lib.hid (L0.out.next I1 G1)
  have HG1 := Lib.hid (grown_trans HG0.out G1)
  clear I1 G1
  go_wp2
  go_loopw [9, 10] (fun v n wr => RelList B p len cap a zs w E N t v n wr) (fun _ n _ => (intOf n).toNat)
  case atStart => exact ⟨0, w.heap.size, 0, [], by omega, by rw [HN.out]; simp, rfl, L1.out, HG1.out⟩
  case round =>
    obtain ⟨I, g, c, vs, hI, rfl, rfl, hls, hgr⟩ := hrel
    have hvl := hls.ln
    rw [times_len] at hvl
    subst hvl
    have HL := Lib.hid hls
    have HG := Lib.hid hgr
    clear hls hgr
    by_cases hlt : vs.length < N
    · have hi : (vs.length : Int) < (N : Int) := by omega
      have hi2 : 0 < (N : Int) - (vs.length : Int) := by omega
      go_wp2_with fail
      refine (H1.out _ _ HL.out.cur).mono ?_
      rintro e w2 ⟨u, rfl, T2, I2, G2⟩
      obtain ⟨au, cu, rfl⟩ := T2.form
      have L2 := Lib.hid (HL.out.next I2 G2)
      have HT2 := Lib.hid T2
      have HG2 := Lib.hid (grown_trans HG.out G2)
      clear T2 I2 G2
      go_wp2_with (refine wpList_append_tree _ _ rfl _ _ rfl w.heap.size (.slice (some ⟨g, 0, none⟩) vs.length c) vs rfl L2.out.own rfl rfl (by omega) L2.out.lw ?_; intro g3 c3 w3 own3 gr3 or3; have L3 := Lib.hid (L2.out.push HT2.out HL.out.g_lt.2 own3 gr3 (or3.imp (fun e => by simpa [Value.ownBlock] using e) id)); have HG3 := Lib.hid (L2.out.grown HG2.out (Nat.le_refl _) gr3))
      go_roundw
      case rel =>
        refine ⟨vs.length + 1, g3, c3, vs ++ [.slice au (E (timesG E vs.length t).2).1.length cu], by omega, by go_num, rfl, ?_⟩
        rw [times_snoc]
        exact ⟨L3.out, HG3.out⟩
      case measure => simp [intOf]; omega
    · obtain rfl : vs.length = N := by omega
      have hi2 : ¬ 0 < (vs.length : Int) - (vs.length : Int) := by omega
      go_wp2
      go_ret
      rw [HQ.out]
      exact ⟨g, c, vs, by rw [times_len]; rfl, HL.out, HG.out⟩

theorem pickInt_lit {B p len cap : Nat} {w : World} {a : Option Addr} {zs : List Int} {s : Nat × Int} (n : Nat) (L : List Int) (H : In B w p a len cap zs s) (hL : L.length = n) (hn : 0 < n) (hn2 : n ≤ 1000) :
    Calls Try.prog 43 #[.pointer (some ⟨p, 0, none⟩), .slice (some ⟨w.heap.size, 0, none⟩) n n] (w.alloc (.cells (L.map (Value.int .i64)).toArray 3)) (fun e w' => Out B p a len cap zs (.int .i64 (piG (exactG zs) L s).1) (piG (exactG zs) L s).2 w e w' ∧ w.heap.size < w'.heap.size) := by
  have hlt := H.lt
  have e : piG (exactG zs) L s = (L.getD (belowF zs n s).1.toNat 0, (belowF zs n s).2) := by
    unfold piG
    rw [hL]
    rfl
  rw [e]
  refine (pickInt_any w.heap.size n L (H.keep ((Below.refl w.heap.size w).alloc (Nat.le_refl _) _) hlt) (heap_alloc_new w _) hL hn (by omega) hn2).mono ?_
  rintro e w' ⟨he, hI, hG⟩
  exact ⟨⟨he, hI, grown_trans (grown_below ⟨rfl, rfl, rfl, Nat.le_refl _, fun _ _ _ => rfl⟩ ((Below.refl w.heap.size w).alloc (Nat.le_refl _) _) rfl) hG⟩, Nat.lt_of_lt_of_le (by simp) hG.size⟩
theorem binop_ok {B p len cap : Nat} {w : World} {a : Option Addr} {zs : List Int} {s : Nat × Int} (H : In B w p a len cap zs s) :
    Calls Try.prog 57 #[.pointer (some ⟨p, 0, none⟩)] w (fun e w' => Out B p a len cap zs (.int .i64 (piG (exactG zs) l7BinL s).1) (piG (exactG zs) l7BinL s).2 w e w' ∧ w.heap.size < w'.heap.size) := by
  have HI := Lib.hid H
  clear H
  go_enter Try.func57, Try.ntmps57
  go_wp2_with fail
  refine (pickInt_lit 21 l7BinL HI.out rfl (by decide) (by decide)).mono ?_
  rintro e w1 ⟨⟨rfl, I1, G1⟩, Z1⟩
  have HI1 := Lib.hid I1
  clear I1
  go_wp2
  go_ret
  exact ⟨⟨rfl, HI1.out, G1⟩, Z1⟩
end Go.Proofs.Ytldkhdoboieibaa.draw
