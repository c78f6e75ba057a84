/-
  The loops that draw a small expression or program end from every cursor.
  What spec.l6Make answers over drawn trees, as a drawn tree.
  spec.l7Leaf and spec.l7Lvalue by the plain drawing functions.
  The trees that are drawn are small.
  The texts in drawn trees are short. No program's text is walked here.
-/
import Derived.Test.YtphccenlflhfjaaGreatDoorGA
namespace Go.Proofs.YtphccenlflhfjaaGreatDoor.draw
open nd lcg
set_option linter.unusedVariables false

theorem byte_up (zs : List Int) (n : Nat) (s : St) (h0 : 0 < n) (h1 : n ≤ 256) : s.1 ≤ (belowF zs n s).2.1 ∧ (s.1 < zs.length → s.1 < (belowF zs n s).2.1) := by
  unfold belowF
  rw [if_neg (by omega), if_pos (by omega)]
  unfold byteF
  split
  · exact ⟨Nat.le_succ _, fun _ => Nat.lt_succ_self _⟩
  · rename_i hc
    exact ⟨Nat.le_refl _, fun h => absurd h hc⟩
theorem exact_up (zs : List Int) (i : Nat) : Step (exactG zs) (exactG zs) (fun s u => s = u ∧ i ≤ s.1) (fun _ _ => True) := by
  refine ⟨fun n s u h0 h1 h => ?_, fun n l k h => trivial⟩
  obtain ⟨rfl, h⟩ := h
  exact ⟨rfl, rfl, Nat.le_trans h (byte_up zs n s h0 h1).1⟩
theorem some_up (zs : List Int) (s : St) (h : s.1 < zs.length) : s.1 < (someG (exactG zs) s).2.1 :=
  ((exact_up zs (s.1 + 1)).expr (1 + ((exactG zs).bl 4 s).1) ((exactG zs).bl 4 s).2 _ ⟨rfl, (byte_up zs 4 s (by decide) (by decide)).2 h⟩).2.2
theorem prog_up (zs : List Int) (s : St) (h : s.1 < zs.length) : s.1 < (progG (exactG zs) s).2.1 :=
  (times_two (exact_up zs (s.1 + 1)).item ((exactG zs).bl 4 s).1 ((exactG zs).bl 4 s).2 _ ⟨rfl, (byte_up zs 4 s (by decide) (by decide)).2 h⟩).2.2
theorem low_of (h : Int) : (((h % 18446744073709551616).toNat : Nat) : Int) = h % 18446744073709551616 ∧ (h % 18446744073709551616).toNat < 18446744073709551616 := by
  have h0 := Int.emod_nonneg h (show (18446744073709551616 : Int) ≠ 0 by decide)
  have h1 := Int.emod_lt_of_pos h (show (0 : Int) < 18446744073709551616 by decide)
  generalize h % 18446744073709551616 = z at h0 h1 ⊢
  omega
theorem ends_every (zs : List Int) (n : Nat) (E : St → List Nd × St) (F : Nat → Nat × Nat) (hfn : ∀ i, Fn (AtU zs i) (fun q k => q.length = k) E F) (he : ∀ u, u < 18446744073709551616 → ∃ k, EndsIn (fun u => rd n (F u)) k u)
    (hup : ∀ s : St, s.1 < zs.length → s.1 < (E s).2.1) : ∀ s : St, ∃ k, EndsIn (rdE n E) k s := by
  have main : ∀ m (s : St), zs.length - s.1 = m → ∃ k, EndsIn (rdE n E) k s := by
    intro m
    induction m using Nat.strongRecOn with
    | ind m ih =>
      intro s hm
      by_cases hlt : s.1 < zs.length
      · have := hup s hlt
        obtain ⟨k, hk⟩ := ih (zs.length - (E s).2.1) (by omega) (E s).2 rfl
        exact ⟨k + 1, .inr hk⟩
      · obtain ⟨e1, e2⟩ := low_of s.2
        obtain ⟨k, hk⟩ := he _ e2
        exact ⟨k, ends_behind zs s.1 n E F (hfn s.1) k s _ ⟨rfl, by omega, e1⟩ hk⟩
  exact fun s => main _ s rfl
theorem some_every (zs : List Int) : ∀ s : St, ∃ k, EndsIn (rdE 60 (someG (exactG zs))) k s :=
  ends_every zs 60 _ (someG fast) (fun i => (exact_fast zs i).some) some_ends (some_up zs)
theorem prog_every (zs : List Int) : ∀ s : St, ∃ k, EndsIn (rdE 220 (progG (exactG zs))) k s :=
  ends_every zs 220 _ (progG fast) (fun i => (exact_fast zs i).prog) prog_ends (prog_up zs)
end Go.Proofs.YtphccenlflhfjaaGreatDoor.draw

namespace Go.Proofs.YtphccenlflhfjaaGreatDoor.draw
open Go.ChangeShapes Go.WideShapes Go.ChangeAt Go.RowKit
open nd
set_option linter.unusedVariables false
theorem TOut.make {B p len cap : Nat} {a : Option Addr} {zs : List Int} {s' : St} {q : List Nd} {w w1 w2 w3 : World} {e : Ending} (hI : In B w1 p a len cap zs s') (hp : p < w.heap.size) (hG : w.grownBy w1 (some p)) (hb : Below w1.heap.size w1 w2) (h : PgOut q w2 e w3) : TOut B p a len cap zs q s' w e w3 := by
  obtain ⟨v, z, r, rfl, hz, pt, hb2, ge⟩ := h
  have h1 := hG.size
  have h2 := hb.size
  refine ⟨v, rfl, ⟨hp, z, r, hz, pt.up (by omega), fun i hi _ => by have := ge i hi; omega⟩, ?_, ?_⟩
  · exact (hI.keep hb hI.lt).keep hb2 (by omega)
  · exact grown_below hG ((hb.mono h1).trans (hb2.mono (by omega))) rfl
theorem parts_of {p S : Nat} {w1 : World} (vs : List Value) (qs : List (List Nd)) (hl : vs.length = qs.length) (h : ∀ i (h1 : i < vs.length) (h2 : i < qs.length), TR p S vs[i] qs[i] w1) :
    Parts (w1.alloc (.cells vs.toArray 24)).heap.size (w1.alloc (.cells vs.toArray 24)) (some ⟨w1.heap.size, 0, none⟩) qs := by
  have hb : Below w1.heap.size w1 (w1.alloc (.cells vs.toArray 24)) := (Below.refl _ _).alloc (Nat.le_refl _) _
  refine .inr ⟨w1.heap.size, 0, rfl, by simp, fun i hi => ?_⟩
  have hv : i < vs.length := by omega
  have ht := h i hv hi
  obtain ⟨ai, ci, e⟩ := ht.form
  rw [e] at ht
  refine ⟨ai, ci, ?_, (ht.lies.keep hb (Nat.le_refl _)).up (by simp)⟩
  rw [cell_of_row _ w1.heap.size (0 + i) _ _ _ (heap_alloc_new w1 _)]
  simp [hv, e]
end Go.Proofs.YtphccenlflhfjaaGreatDoor.draw

namespace Go.Proofs.YtphccenlflhfjaaGreatDoor.draw
open Go.ChangeShapes Go.WideShapes Go.ChangeAt Go.RowKit
open nd
set_option linter.unusedVariables false
theorem leafT_eq (zs : List Int) (s : St) : leafT zs s = leafG (exactG zs) s := by
  have h2 := belowF_bd zs 2 (belowF zs 7 s).2 (by decide)
  have e : (exactG zs).bl 7 s = ((belowF zs 7 s).1.toNat, (belowF zs 7 s).2) := rfl
  have e2 : ((exactG zs).bl 2 (belowF zs 7 s).2) = ((belowF zs 2 (belowF zs 7 s).2).1.toNat, (belowF zs 2 (belowF zs 7 s).2).2) := rfl
  unfold leafT leafG
  rw [e]
  dsimp only
  generalize (belowF zs 7 s).1.toNat = b
  rcases b with _ | _ | _ | b
  · rfl
  · rfl
  · show (if (belowF zs 2 (belowF zs 7 s).2).1 = 0 then _ else _) = (if ((exactG zs).bl 2 (belowF zs 7 s).2).1 = 0 then _ else _)
    rw [e2]
    dsimp only
    by_cases hc : (belowF zs 2 (belowF zs 7 s).2).1 = 0
    · rw [if_pos hc, if_pos (by omega)]; rfl
    · rw [if_neg hc, if_neg (by omega)]; rfl
  · rfl
/-- The contract of an expression's draw at depth D: it answers what E does. -/
def ExprC (B p len cap : Nat) (a : Option Addr) (zs : List Int) (f : Nat) (D : Int) (E : St → List Nd × St) : Prop :=
  ∀ w s, In B w p a len cap zs s → Calls Tryz.prog f #[.pointer (some ⟨p, 0, none⟩), .int .i64 D] w (TOut B p a len cap zs (E s).1 (E s).2 w)
theorem leaf_ok {B p len cap : Nat} {w : World} {a : Option Addr} {zs : List Int} {s : Nat × Int} (H : In B w p a len cap zs s) :
    Calls Tryz.prog 109 #[.pointer (some ⟨p, 0, none⟩)] w (TOut B p a len cap zs (leafG (exactG zs) s).1 (leafG (exactG zs) s).2 w) := by
  rw [← leafT_eq]
  exact leaf_any H
/-- Trees small enough to be put together. -/
def Good (q : List Nd) : Prop := 0 < q.length ∧ q.length ≤ 20000 ∧ ∀ t ∈ q, t.kids.length ≤ 1048576
theorem good_parts {n : Nd} {w2 : World} {a2 : Option Addr} {qs : List (List Nd)} {cap2 : Nat} (hp : Parts w2.heap.size w2 a2 qs) (hg : ∀ q ∈ qs, Good q) (hl : qs.length ≤ 5) :
    Calls Tryz.prog 86 #[.agg #[.int .i64 n.k, .int .i64 n.op, .string n.s, .string n.t, .slice none 0 0], .slice a2 qs.length cap2] w2 (PgOut (makeT n qs) w2) := by
  refine make_any n qs a2 cap2 w2 hp (fun q hq => (hg q hq).1) ?_ (by omega) (fun q hq => (hg q hq).2.2)
  have key : ∀ l : List (List Nd), (∀ q ∈ l, Good q) → sumL l ≤ l.length * 20000 := by
    intro l
    induction l with
    | nil => intro _; simp [sumL]
    | cons q l ih =>
      intro h
      have h1 := (h q (List.mem_cons_self ..)).2.1
      have h2 := ih (fun q hq => h q (List.mem_cons_of_mem _ hq))
      simp only [sumL, List.length_cons]
      omega
  have := key qs hg
  omega
set_option maxHeartbeats 1600000 in
theorem lval_ok {B p len cap : Nat} {w : World} {a : Option Addr} {zs : List Int} {s : Nat × Int} (D : Int) (E1 E2 : St → List Nd × St) (hD : -100 ≤ D ∧ D ≤ 100) (h1 : ExprC B p len cap a zs 83 (D - 1) E1) (h2 : ExprC B p len cap a zs 83 (D - 2) E2)
    (g1 : ∀ s, Good (E1 s).1) (g2 : ∀ s, Good (E2 s).1) (H : In B w p a len cap zs s) :
    Calls Tryz.prog 110 #[.pointer (some ⟨p, 0, none⟩), .int .i64 D] w (TOut B p a len cap zs (lvalG (exactG zs) E1 E2 s).1 (lvalG (exactG zs) E1 E2 s).2 w) := by
  have HI := Lib.hid H
  have H1 := Lib.hid h1
  have H2 := Lib.hid h2
  have G1' := Lib.hid g1
  have G2' := Lib.hid g2
  clear H h1 h2 g1 g2
  have hb := belowF_bd zs 4 s (by omega)
  obtain ⟨K, hK⟩ : ∃ K : Nat, (belowF zs 4 s).1 = K := ⟨(belowF zs 4 s).1.toNat, by omega⟩
  have HK := Lib.hid hK
  have hE : (exactG zs).bl 4 s = (K, (belowF zs 4 s).2) := by
    show ((belowF zs 4 s).1.toNat, (belowF zs 4 s).2) = _
    rw [hK, Int.toNat_natCast]
  rw [hK] at hb
  rcases (show K = 0 ∨ K = 1 ∨ K = 2 ∨ K = 3 by omega) with rfl | rfl | rfl | rfl
  · have HQ := Lib.hid (show lvalG (exactG zs) E1 E2 s = (makeT (nodeS 5 (pickS l2WordL zs (belowF zs 4 s).2)) [(E1 (belowF zs 11 (belowF zs 4 s).2).2).1], (E1 (belowF zs 11 (belowF zs 4 s).2).2).2) by unfold lvalG; rw [hE]; rfl)
    clear hK hE
    go_enter Tryz.func110, Tryz.ntmps110
    go_wp2_with fail
    refine (below_any 4 HI.out).mono ?_
    rintro e w1 ⟨he, I1, G1⟩
    rw [HK.out] at he
    subst he
    go_wp2_with fail
    refine (x_l2Word I1).mono ?_
    rintro e w2 ⟨⟨rfl, I2, G2⟩, Z2⟩
    go_wp2_with fail
    refine (H1.out _ _ I2).mono ?_
    rintro e w3 ⟨v3, rfl, T3, I3, G3⟩
    obtain ⟨a3, c3, rfl⟩ := T3.form
    go_wp2_with fail
    refine (good_parts (n := nodeS 5 (pickS l2WordL zs (belowF zs 4 s).2)) (parts_of [.slice a3 _ c3] [(E1 (belowF zs 11 (belowF zs 4 s).2).2).1] rfl (fun i h _ => by have e0 : i = 0 := (by simpa using h); subst e0; exact T3)) (by simpa using G1'.out _) (by simp)).mono ?_
    rintro e w4 hmk
    have HM := Lib.hid (TOut.make I3 HI.out.lt (grown_trans (grown_trans G1 G2) G3) ((Below.refl _ _).alloc (Nat.le_refl _) _) hmk)
    obtain ⟨v4, rfl, _⟩ := HM.out
    go_wp2
    go_ret
    rw [HQ.out]
    exact HM.out
  · have HQ := Lib.hid (show lvalG (exactG zs) E1 E2 s = (makeT (nodeO 6 0) [(E2 (belowF zs 4 s).2).1], (E2 (belowF zs 4 s).2).2) by unfold lvalG; rw [hE]; rfl)
    clear hK hE
    go_enter Tryz.func110, Tryz.ntmps110
    go_wp2_with fail
    refine (below_any 4 HI.out).mono ?_
    rintro e w1 ⟨he, I1, G1⟩
    rw [HK.out] at he
    subst he
    go_wp2_with fail
    refine (H2.out _ _ I1).mono ?_
    rintro e w3 ⟨v3, rfl, T3, I3, G3⟩
    obtain ⟨a3, c3, rfl⟩ := T3.form
    go_wp2_with fail
    refine (good_parts (n := nodeO 6 0) (parts_of [.slice a3 _ c3] [(E2 (belowF zs 4 s).2).1] rfl (fun i h _ => by have e0 : i = 0 := (by simpa using h); subst e0; exact T3)) (by simpa using G2'.out _) (by simp)).mono ?_
    rintro e w4 hmk
    have HM := Lib.hid (TOut.make I3 HI.out.lt (grown_trans G1 G3) ((Below.refl _ _).alloc (Nat.le_refl _) _) hmk)
    obtain ⟨v4, rfl, _⟩ := HM.out
    go_wp2
    go_ret
    rw [HQ.out]
    exact HM.out
  · have HQ := Lib.hid (show lvalG (exactG zs) E1 E2 s = (leaf 1 (pickS l2WordL zs (belowF zs 4 s).2), (belowF zs 11 (belowF zs 4 s).2).2) by unfold lvalG; rw [hE]; rfl)
    clear hK hE
    go_enter Tryz.func110, Tryz.ntmps110
    go_wp2_with fail
    refine (below_any 4 HI.out).mono ?_
    rintro e w1 ⟨he, I1, G1⟩
    rw [HK.out] at he
    subst he
    go_wp2_with fail
    refine (x_l2Word I1).mono ?_
    rintro e w2 ⟨⟨rfl, I2, G2⟩, Z2⟩
    go_wp2
    go_ret
    rw [HQ.out]
    exact TOut.leaf 1 _ I2 HI.out.lt (Nat.lt_of_le_of_lt G1.size Z2) (grown_trans G1 G2)
  · have HQ := Lib.hid (show lvalG (exactG zs) E1 E2 s = (leaf 1 (pickS l2WordL zs (belowF zs 4 s).2), (belowF zs 11 (belowF zs 4 s).2).2) by unfold lvalG; rw [hE]; rfl)
    clear hK hE
    go_enter Tryz.func110, Tryz.ntmps110
    go_wp2_with fail
    refine (below_any 4 HI.out).mono ?_
    rintro e w1 ⟨he, I1, G1⟩
    rw [HK.out] at he
    subst he
    go_wp2_with fail
    refine (x_l2Word I1).mono ?_
    rintro e w2 ⟨⟨rfl, I2, G2⟩, Z2⟩
    go_wp2
    go_ret
    rw [HQ.out]
    exact TOut.leaf 1 _ I2 HI.out.lt (Nat.lt_of_le_of_lt G1.size Z2) (grown_trans G1 G2)
end Go.Proofs.YtphccenlflhfjaaGreatDoor.draw

namespace Go.Proofs.YtphccenlflhfjaaGreatDoor.draw
open nd
set_option linter.unusedVariables false
def Small (k : Nat) (q : List Nd) : Prop := 0 < q.length ∧ q.length ≤ k ∧ ∀ t ∈ q, t.kids.length ≤ 1000
theorem Small.mono {a b : Nat} {q : List Nd} (h : Small a q) (hab : a ≤ b) : Small b q := ⟨h.1, Nat.le_trans h.2.1 hab, h.2.2⟩
theorem Small.good {k : Nat} {q : List Nd} (h : Small k q) (hk : k ≤ 20000) : Good q := ⟨h.1, Nat.le_trans h.2.1 hk, fun t ht => Nat.le_trans (h.2.2 t ht) (by decide)⟩
theorem go_kids : ∀ (ps : List (List Nd)) (out : List Nd) (ks : List Int), (∀ q ∈ ps, ∀ t ∈ q, t.kids.length ≤ 1000) → (∀ t ∈ out, t.kids.length ≤ 1000) → ∀ t ∈ (makeGo ps out ks).1, t.kids.length ≤ 1000 := by
  intro ps
  induction ps with
  | nil => intro out ks _ h; exact h
  | cons q ps ih =>
    intro out ks h1 h2
    refine ih _ _ (fun q' hq => h1 q' (List.mem_cons_of_mem _ hq)) ?_
    intro t ht
    rcases List.mem_append.1 ht with ht | ht
    · exact h2 t ht
    · obtain ⟨t', ht', rfl⟩ := List.mem_map.1 ht
      have := h1 q (List.mem_cons_self ..) t' ht'
      simpa [shN, shK] using this
theorem sum_le {k : Nat} : ∀ ps : List (List Nd), (∀ q ∈ ps, Small k q) → sumL ps ≤ ps.length * k := by
  intro ps
  induction ps with
  | nil => intro _; simp [sumL]
  | cons q ps ih =>
    intro h
    have h1 := (h q (List.mem_cons_self ..)).2.1
    have h2 := ih (fun q hq => h q (List.mem_cons_of_mem _ hq))
    simp only [sumL, List.length_cons, Nat.succ_mul]
    omega
theorem small_make {k m : Nat} (n : Nd) (ps : List (List Nd)) (h : ∀ q ∈ ps, Small k q) (hm : ps.length ≤ m) (hm2 : m ≤ 1000) : Small (1 + m * k) (makeT n ps) := by
  refine ⟨by rw [makeT_len]; omega, ?_, ?_⟩
  · rw [makeT_len]
    have h1 := sum_le ps h
    have h2 := Nat.mul_le_mul_right k hm
    omega
  · intro t ht
    unfold makeT at ht
    rcases List.mem_append.1 ht with ht | ht
    · exact go_kids ps [] [] (fun q hq => (h q hq).2.2) (fun t ht => by cases ht) t ht
    · rw [List.mem_singleton] at ht
      subst ht
      show (makeGo ps [] []).2.length ≤ 1000
      rw [makeGo_klen]
      simp
      omega
def SmE (k : Nat) (E : St → List Nd × St) : Prop := ∀ s, Small k (E s).1
theorem sm0 (n : Nd) : Small 1 (makeT n []) := (small_make (k := 0) (m := 0) n [] (fun q hq => (by cases hq)) (Nat.le_refl _) (by decide)).mono (by decide)
theorem sm1 {k : Nat} (n : Nd) {q : List Nd} (h : Small k q) : Small (1 + k) (makeT n [q]) := (small_make (k := k) (m := 1) n [q] (fun r hr => by rw [List.mem_singleton] at hr; rw [hr]; exact h) (Nat.le_refl _) (by decide)).mono (by omega)
theorem sm_list {k m : Nat} (n : Nd) {l : List (List Nd)} (h : (∀ q ∈ l, Small k q) ∧ l.length ≤ m) (hm : m ≤ 1000) : Small (1 + m * k) (makeT n l) := small_make n l h.1 h.2 hm
theorem sm_cons {k m : Nat} {q : List Nd} {l : List (List Nd)} (hq : Small k q) (h : (∀ q ∈ l, Small k q) ∧ l.length ≤ m) : (∀ r ∈ q :: l, Small k r) ∧ (q :: l).length ≤ m + 1 := by
  refine ⟨fun r hr => ?_, ?_⟩
  · rcases List.mem_cons.1 hr with e | e
    · rw [e]; exact hq
    · exact h.1 r e
  · exact Nat.succ_le_succ h.2
theorem sm_nil {k : Nat} : (∀ q ∈ ([] : List (List Nd)), Small k q) ∧ ([] : List (List Nd)).length ≤ 0 := ⟨fun q hq => (by cases hq), Nat.le_refl _⟩
theorem exact_lt (zs : List Int) (n : Nat) (s : St) (hn : 0 < n) : ((exactG zs).bl n s).1 < n := by
  have h := belowF_bd zs n s (by omega)
  show (belowF zs n s).1.toNat < n
  omega
theorem times_small {k : Nat} {E : St → List Nd × St} (h : SmE k E) : ∀ n s, (∀ q ∈ (timesG E n s).1, Small k q) ∧ (timesG E n s).1.length ≤ n := by
  intro n
  induction n with
  | zero => intro s; exact ⟨fun q hq => (by cases hq), Nat.le_refl _⟩
  | succ n ih => intro s; exact sm_cons (h s) (ih _)
theorem list_small {k : Nat} (zs : List Int) {E : St → List Nd × St} (h : SmE k E) (least most : Nat) (hl : least ≤ most) (s : St) : (∀ q ∈ (listG (exactG zs) E least most s).1, Small k q) ∧ (listG (exactG zs) E least most s).1.length ≤ most := by
  have hb := exact_lt zs (most - least + 1) s (by omega)
  obtain ⟨h1, h2⟩ := times_small h (least + ((exactG zs).bl (most - least + 1) s).1) ((exactG zs).bl (most - least + 1) s).2
  exact ⟨h1, Nat.le_trans h2 (by omega)⟩
theorem word_small (zs : List Int) : SmE 1 (wordG (exactG zs)) := fun s => sm0 _
theorem leaf_small (zs : List Int) : SmE 1 (leafG (exactG zs)) := by
  intro s
  unfold leafG
  dsimp only
  generalize ((exactG zs).bl 7 s).1 = b
  rcases b with _ | _ | _ | b
  · exact sm0 _
  · exact sm0 _
  · show Small 1 (if ((exactG zs).bl 2 ((exactG zs).bl 7 s).2).1 = 0 then _ else _ : List Nd × St).1
    split
    · exact sm0 _
    · exact sm0 _
  · exact sm0 _
theorem lval_small {k : Nat} (zs : List Int) {E1 E2 : St → List Nd × St} (h1 : SmE k E1) (h2 : SmE k E2) : SmE (1 + k) (lvalG (exactG zs) E1 E2) := by
  intro s
  unfold lvalG
  dsimp only
  generalize ((exactG zs).bl 4 s).1 = b
  rcases b with _ | _ | b
  · exact sm1 _ (h1 _)
  · exact sm1 _ (h2 _)
  · exact (sm0 _).mono (by omega)
theorem step_small {k : Nat} (zs : List Int) {E1 E2 E3 : St → List Nd × St} (h1 : SmE k E1) (h2 : SmE k E2) (h3 : SmE k E3) : SmE (3 + 3 * k) (stepG (exactG zs) E1 E2 E3) := by
  intro s
  unfold stepG
  dsimp only
  generalize ((exactG zs).bl 2 s).1 = i
  generalize ((exactG zs).bl 16 ((exactG zs).bl 2 s).2).1 = b
  rcases b with _ | _ | _ | _ | _ | _ | _ | _ | _ | _ | _ | _ | b
  · exact (leaf_small zs _).mono (by omega)
  · exact (lval_small zs h1 h2 _).mono (by omega)
  · exact (sm1 _ (h1 _)).mono (by omega)
  · exact (sm_list _ (list_small zs h1 0 3 (by omega) _) (by decide)).mono (by omega)
  · exact (sm_list _ (list_small zs h2 0 3 (by omega) _) (by decide)).mono (by omega)
  · exact (sm1 _ (lval_small zs h2 h3 _)).mono (by omega)
  · exact (sm1 _ (lval_small zs h2 h3 _)).mono (by omega)
  · exact (sm1 _ (h1 _)).mono (by omega)
  · exact (sm1 _ (h1 _)).mono (by omega)
  · exact (sm_list _ (list_small zs h1 1 2 (by omega) _) (by decide)).mono (by omega)
  · exact (sm_list (m := 3) _ (sm_cons (h1 _) (sm_cons (h1 _) (sm_cons (h1 _) sm_nil))) (by decide)).mono (by omega)
  · exact (sm_list (m := 2) _ (sm_cons (lval_small zs h2 h3 _) (sm_cons ((h1 _).mono (by omega)) sm_nil)) (by decide)).mono (by omega)
  · exact (sm_list (m := 2) _ (sm_cons (h1 _) (sm_cons (h1 _) sm_nil)) (by decide)).mono (by omega)
def kZ : Nat → Nat
  | 0 => 1
  | d + 1 => 3 + 3 * kZ d
theorem SmE.mono {a b : Nat} {E : St → List Nd × St} (h : SmE a E) (hab : a ≤ b) : SmE b E := fun s => (h s).mono hab
theorem exprs_small (zs : List Int) : ∀ d, SmE (kZ d) (exprs (exactG zs) d).1 ∧ SmE (kZ d) (exprs (exactG zs) d).2.1 ∧ SmE (kZ d) (exprs (exactG zs) d).2.2 := by
  intro d
  induction d with
  | zero => exact ⟨leaf_small zs, leaf_small zs, leaf_small zs⟩
  | succ d ih => exact ⟨step_small zs ih.1 ih.2.1 ih.2.2, ih.1.mono (by simp only [kZ]; omega), ih.2.1.mono (by simp only [kZ]; omega)⟩
end Go.Proofs.YtphccenlflhfjaaGreatDoor.draw

namespace Go.Proofs.YtphccenlflhfjaaGreatDoor.draw.sz
open nd lcg draw
set_option linter.unusedVariables false

/-- A node's texts are short. -/
def Sh (t : Nd) : Prop := t.s.size ≤ 16 ∧ t.t.size ≤ 16
/-- The same numbers; of a tree this alone: are all texts short? -/
def szG (zs : List Int) : Gen St Bool := ⟨(exactG zs).bl, fun n l => decide (n.s.size ≤ 16) && decide (n.t.size ≤ 16) && l.all id⟩
theorem go_str : ∀ (ps : List (List Nd)) (out : List Nd) (ks : List Int), (∀ q ∈ ps, ∀ t ∈ q, Sh t) → (∀ t ∈ out, Sh t) → ∀ t ∈ (makeGo ps out ks).1, Sh t := by
  intro ps
  induction ps with
  | nil => intro out ks _ h; exact h
  | cons q ps ih =>
    intro out ks h1 h2
    refine ih _ _ (fun q' hq => h1 q' (List.mem_cons_of_mem _ hq)) ?_
    intro t ht
    rcases List.mem_append.1 ht with ht | ht
    · exact h2 t ht
    · obtain ⟨t', ht', rfl⟩ := List.mem_map.1 ht
      exact h1 q (List.mem_cons_self ..) t' ht'
theorem all2_sh {l : List (List Nd)} {k : List Bool} (h : All2 (fun q b => b = true → ∀ t ∈ q, Sh t) l k) : k.all id = true → ∀ q ∈ l, ∀ t ∈ q, Sh t := by
  induction h with
  | nil => intro _ q hq; cases hq
  | cons h1 _ ih =>
    intro hk q hq
    simp only [List.all_cons, Bool.and_eq_true, id] at hk
    rcases List.mem_cons.1 hq with e | hq
    · rw [e]; exact h1 hk.1
    · exact ih hk.2 q hq
theorem exact_sz (zs : List Int) : Step (exactG zs) (szG zs) (fun s u => s = u) (fun q b => b = true → ∀ t ∈ q, Sh t) := by
  refine ⟨fun n s u h0 h1 h => by subst h; exact ⟨rfl, rfl⟩, fun n l k h hb t ht => ?_⟩
  have hb' : (decide (n.s.size ≤ 16) && decide (n.t.size ≤ 16) && k.all id) = true := hb
  simp only [Bool.and_eq_true, decide_eq_true_eq] at hb'
  have ht' : t ∈ (makeGo l [] []).1 ++ [{ n with kids := (makeGo l [] []).2 }] := ht
  rcases List.mem_append.1 ht' with ht | ht
  · exact go_str l [] [] (all2_sh h hb'.2) (fun t ht => by cases ht) t ht
  · rw [List.mem_singleton] at ht
    subst ht
    exact hb'.1
/-! ### They always are -/
def Tr1 (E : St → Bool × St) : Prop := ∀ s, (E s).1 = true
def Nd1 (g : Gen St Bool) : Prop := ∀ n l, n.s.size ≤ 16 → n.t.size ≤ 16 → l.all id = true → g.nd n l = true
theorem ndO {g : Gen St Bool} (H : Nd1 g) {k o : Int} {l : List Bool} (h : l.all id = true) : g.nd (nodeO k o) l = true := H _ _ (Nat.zero_le _) (Nat.zero_le _) h
theorem pk_sz {L : List ByteArray} (hL : L.all (fun x => decide (x.size ≤ 16)) = true) (g : Gen St Bool) (s : St) : (pkG g L s).1.size ≤ 16 := by
  show (L.getD _ _).size ≤ 16
  rw [List.getD_eq_getElem?_getD]
  cases e : L[(g.bl L.length s).1]? with
  | none => exact Nat.zero_le _
  | some x =>
    have := List.all_eq_true.1 hL x (List.mem_of_getElem? e)
    exact of_decide_eq_true this
theorem ndS {g : Gen St Bool} (H : Nd1 g) {k : Int} {L : List ByteArray} {s : St} {l : List Bool} (hL : L.all (fun x => decide (x.size ≤ 16)) = true) (h : l.all id = true) : g.nd (nodeS k (pkG g L s).1) l = true := H _ _ (pk_sz hL _ _) (Nat.zero_le _) h
theorem times1 {E : St → Bool × St} (h : Tr1 E) : ∀ n s, (timesG E n s).1.all id = true := by
  intro n
  induction n with
  | zero => intro s; rfl
  | succ n ih => intro s; simp only [timesG, List.all_cons, Bool.and_eq_true]; exact ⟨h s, ih _⟩
theorem list1 {g : Gen St Bool} {E : St → Bool × St} (h : Tr1 E) (a b : Nat) (s : St) : (listG g E a b s).1.all id = true := times1 h _ _
theorem one1 {b : Bool} (h : b = true) : [b].all id = true := by simp [h]
theorem two1 {b c : Bool} (h : b = true) (h2 : c = true) : [b, c].all id = true := by simp [h, h2]
theorem three1 {b c d : Bool} (h : b = true) (h2 : c = true) (h3 : d = true) : [b, c, d].all id = true := by simp [h, h2, h3]
theorem word1 {g : Gen St Bool} (H : Nd1 g) : Tr1 (wordG g) := fun s => ndS H (by decide) rfl
theorem leaf1 {g : Gen St Bool} (H : Nd1 g) : Tr1 (leafG g) := by
  intro s
  unfold leafG
  dsimp only
  generalize (g.bl 7 s).1 = b
  rcases b with _ | _ | _ | b
  all_goals try dsimp only
  · exact ndS H (by decide) rfl
  · exact ndS H (by decide) rfl
  · show (if (g.bl 2 (g.bl 7 s).2).1 = 0 then _ else _ : Bool × St).1 = true
    split
    · exact ndS H (by decide) rfl
    · exact word1 H _
  · exact word1 H _
section
variable {g : Gen St Bool} (H : Nd1 g) {E1 E2 E3 : St → Bool × St} (h1 : Tr1 E1) (h2 : Tr1 E2) (h3 : Tr1 E3)
include H h1 h2
theorem lval1 : Tr1 (lvalG g E1 E2) := by
  intro s
  unfold lvalG
  dsimp only
  generalize (g.bl 4 s).1 = b
  rcases b with _ | _ | b
  all_goals try dsimp only
  · exact ndS H (by decide) (one1 (h1 _))
  · exact ndO H (one1 (h2 _))
  · exact word1 H _
include h3
theorem step1 : Tr1 (stepG g E1 E2 E3) := by
  intro s
  unfold stepG
  dsimp only
  generalize (g.bl 2 s).1 = i
  generalize (g.bl 16 (g.bl 2 s).2).1 = b
  rcases b with _ | _ | _ | _ | _ | _ | _ | _ | _ | _ | _ | _ | b
  all_goals try dsimp only
  · exact leaf1 H _
  · exact lval1 H h1 h2 _
  · exact ndO H (one1 (h1 _))
  · exact ndS H (by decide) (list1 h1 _ _ _)
  · exact ndS H (by decide) (list1 h2 _ _ _)
  · exact ndO H (one1 (lval1 H h2 h3 _))
  · exact ndO H (one1 (lval1 H h2 h3 _))
  · exact ndO H (one1 (h1 _))
  · exact ndO H (one1 (h1 _))
  · exact ndS H (by decide) (list1 h1 _ _ _)
  · exact ndO H (three1 (h1 _) (h1 _) (h1 _))
  · exact ndO H (two1 (lval1 H h2 h3 _) (h1 _))
  · exact ndO H (two1 (h1 _) (h1 _))
end
theorem exprs1 {g : Gen St Bool} (H : Nd1 g) : ∀ d, Tr1 (exprs g d).1 ∧ Tr1 (exprs g d).2.1 ∧ Tr1 (exprs g d).2.2 := by
  intro d
  induction d with
  | zero => exact ⟨leaf1 H, leaf1 H, leaf1 H⟩
  | succ d ih => exact ⟨step1 H ih.1 ih.2.1 ih.2.2, ih.1, ih.2.1⟩
theorem expr1 {g : Gen St Bool} (H : Nd1 g) (d : Nat) : Tr1 (exprG g d) := (exprs1 H d).1
section
variable {g : Gen St Bool} (H : Nd1 g) {A B C : St → Bool × St} (ha : Tr1 A) (hb : Tr1 B) (hc : Tr1 C)
include H ha
theorem maybe1 : Tr1 (maybeG g A) := by
  intro s
  unfold maybeG
  split
  · exact ndO H rfl
  · exact ha _
theorem block1 : Tr1 (blockG g A) := fun s => ndO H (times1 ha _ _)
include hb
theorem simple1 : Tr1 (simpleG g A B) := by
  intro s
  have pr : ∀ u, ((fun (u : St) =>
    let o := g.bl 2 u
    let l := listG g A o.1 3 o.2
    let c := g.bl 3 l.2
    if c.1 = 0 then
      let x := pkG g l7OutL c.2
      let e := B x.2
      (g.nd ⟨21, (o.1 : Int), ⟨#[]⟩, x.1, []⟩ (l.1 ++ [e.1]), e.2)
    else (g.nd (nodeO 21 (o.1 : Int)) l.1, c.2)) u).1 = true := by
    intro u
    dsimp only
    split
    · exact H _ _ (Nat.zero_le _) (pk_sz (by decide) _ _) (by simp only [List.all_append, Bool.and_eq_true]; exact ⟨list1 ha _ _ _, one1 (hb _)⟩)
    · exact ndO H (list1 ha _ _ _)
  unfold simpleG
  dsimp only
  generalize (g.bl 9 s).1 = b
  rcases b with _ | _ | _ | _ | _ | _ | b
  all_goals try dsimp only
  · exact pr _
  · exact pr _
  · exact ndO H rfl
  · exact ndO H (list1 ha _ _ _)
  · exact ndS H (by decide) (list1 hb _ _ _)
  · show (if (g.bl 2 _).1 = 0 then _ else _ : Bool × St).1 = true
    split
    · exact ndS H (by decide) rfl
    · exact ndO H (one1 (ha _))
  · exact ndO H (one1 (ha _))
include hc
theorem comp1 : Tr1 (compG g A B C) := by
  intro s
  unfold compG
  dsimp only
  generalize (g.bl 6 s).1 = b
  rcases b with _ | _ | _ | _ | _ | b
  all_goals try dsimp only
  · exact ndO H (two1 (ha _) (hc _))
  · exact ndO H (three1 (ha _) (hc _) (hc _))
  · exact ndO H (two1 (ha _) (hc _))
  · exact ndO H (two1 (hc _) (ha _))
  · refine ndO H ?_
    simp only [List.all_cons, List.all_nil, Bool.and_eq_true, id]
    exact ⟨maybe1 H hb _, maybe1 H ha _, maybe1 H ha _, hc _, trivial⟩
  · show (if (g.bl 2 _).1 = 0 then _ else _ : Bool × St).1 = true
    split
    · exact hc _
    · exact H _ _ (pk_sz (by decide) _ _) (pk_sz (by decide) _ _) (one1 (hc _))
end
theorem stmt1 {g : Gen St Bool} (H : Nd1 g) : ∀ d, Tr1 (stmtG g d) := by
  intro d
  induction d with
  | zero => exact simple1 H (expr1 H 0) (expr1 H 0)
  | succ d ih =>
    intro s
    unfold stmtG
    split
    · exact comp1 H (expr1 H 1) (expr1 H 2) (block1 H ih) _
    · exact simple1 H (expr1 H _) (expr1 H _) _
theorem item1 {g : Gen St Bool} (H : Nd1 g) : Tr1 (itemG g) := by
  intro s
  unfold itemG
  dsimp only
  have hB : Tr1 (blockG g (stmtG g (1 + (g.bl 2 s).1))) := block1 H (stmt1 H _)
  have hE : Tr1 (exprG g (1 + (g.bl 2 s).1)) := expr1 H _
  have h1 : Tr1 (exprG g 1) := expr1 H 1
  generalize blockG g (stmtG g (1 + (g.bl 2 s).1)) = Bk at hB ⊢
  generalize exprG g (1 + (g.bl 2 s).1) = E at hE ⊢
  generalize (g.bl 8 (g.bl 2 s).2).1 = b
  rcases b with _ | _ | _ | _ | _ | _ | _ | b
  all_goals try dsimp only
  · exact ndO H (one1 (hB _))
  · exact ndO H (one1 (hE _))
  · exact ndO H (one1 (hB _))
  · exact ndO H (two1 (h1 _) (h1 _))
  · exact ndO H (three1 (h1 _) (h1 _) (hB _))
  · exact ndS H (by decide) (by simp only [List.all_append, Bool.and_eq_true]; exact ⟨times1 (word1 H) _ _, one1 (hB _)⟩)
  · exact ndS H (by decide) rfl
  · exact ndO H (two1 (hE _) (hB _))
theorem prog1 {g : Gen St Bool} (H : Nd1 g) : Tr1 (progG g) := fun s => ndO H (times1 (item1 H) _ _)
/-! ### So of the exact trees -/
theorem nd_sz (zs : List Int) : Nd1 (szG zs) := by
  intro n l h1 h2 h
  show (decide (n.s.size ≤ 16) && decide (n.t.size ≤ 16) && l.all id) = true
  rw [h, decide_eq_true h1, decide_eq_true h2]
  rfl
theorem expr_str (zs : List Int) (d : Nat) (s : St) : ∀ t ∈ (exprG (exactG zs) d s).1, Sh t := ((exact_sz zs).expr d s s rfl).1 (expr1 (nd_sz zs) d s)
theorem stmt_str (zs : List Int) (d : Nat) (s : St) : ∀ t ∈ (stmtG (exactG zs) d s).1, Sh t := ((exact_sz zs).stmt d s s rfl).1 (stmt1 (nd_sz zs) d s)
theorem item_str (zs : List Int) (s : St) : ∀ t ∈ (itemG (exactG zs) s).1, Sh t := ((exact_sz zs).item s s rfl).1 (item1 (nd_sz zs) s)
theorem prog_str (zs : List Int) (s : St) : ∀ t ∈ (progG (exactG zs) s).1, Sh t := ((exact_sz zs).prog s s rfl).1 (prog1 (nd_sz zs) s)
end Go.Proofs.YtphccenlflhfjaaGreatDoor.draw.sz
