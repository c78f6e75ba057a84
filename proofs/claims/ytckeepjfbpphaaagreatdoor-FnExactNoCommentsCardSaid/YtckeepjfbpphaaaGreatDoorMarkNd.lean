/-
  The marks that the law lays into a tree of one's own: laws.markIntS, markNodeS: contracts.
-/
import Derived.Test.YtckeepjfbpphaaaGreatDoorMarkText
import Derived.Test.YtckeepjfbpphaaaGreatDoorShiftOwn
namespace Go.Proofs.YtckeepjfbpphaaaGreatDoor.mark
open Go.ChangeShapes Go.WideShapes Go.ChangeAt Go.RowKit
open nd
set_option linter.unusedVariables false
set_option maxRecDepth 20000

def mkI (P m : Nat) : List Int := (List.range m).map (fun j => ((P + j : Nat) : Int))
theorem mkI_len (P m : Nat) : (mkI P m).length = m := by simp [mkI]
theorem mkI_get {P m j : Nat} (h : j < m) : (mkI P m)[j]'(by rw [mkI_len]; exact h) = ((P + j : Nat) : Int) := by simp [mkI]
theorem mkI_succ (P m : Nat) : mkI P (m + 1) = mkI P m ++ [((P + m : Nat) : Int)] := by simp [mkI, List.range_succ]
def mkN (P m : Nat) : Nd := ⟨(P : Int), ((P + 1 : Nat) : Int), markF (P + 2), markF (P + 3), mkI (P + 4) m⟩
def mkL : List Nat → Nat → List Nd
  | [], _ => []
  | m :: ms, P => mkN P m :: mkL ms (P + 4 + m)
def endM : List Nat → Nat → Nat
  | [], P => P
  | m :: ms, P => endM ms (P + 4 + m)
theorem endM_eq : ∀ (ms : List Nat) (P : Nat), endM ms P = P + 4 * ms.length + ms.sum := by
  intro ms
  induction ms with
  | nil => intro P; simp [endM]
  | cons m ms ih => intro P; rw [endM, ih]; simp; omega
theorem endM_snoc : ∀ (ms : List Nat) (m P : Nat), endM (ms ++ [m]) P = endM ms P + 4 + m := by
  intro ms m P
  rw [endM_eq, endM_eq]; simp; omega
theorem mkL_snoc : ∀ (ms : List Nat) (m P : Nat), mkL (ms ++ [m]) P = mkL ms P ++ [mkN (endM ms P) m] := by
  intro ms
  induction ms with
  | nil => intro m P; rfl
  | cons x ms ih => intro m P; simp only [List.cons_append, mkL, endM, ih]
theorem mkL_len : ∀ (ms : List Nat) (P : Nat), (mkL ms P).length = ms.length := by
  intro ms
  induction ms with
  | nil => intro P; rfl
  | cons x ms ih => intro P; simp [mkL, ih]
def lens (l : List Nd) : List Nat := l.map (fun n => n.kids.length)
theorem lens_step {l : List Nd} {I : Nat} (h : I < l.length) : lens (l.take (I + 1)) = lens (l.take I) ++ [l[I].kids.length] := by
  unfold lens
  rw [List.take_succ_eq_append_getElem h, List.map_append]
  rfl
theorem lens_sum (l : List Nd) : (lens l).sum ≤ tot l := by
  induction l with
  | nil => simp [lens]
  | cons n l ih =>
    simp only [lens, List.map_cons, List.sum_cons, tot, Nd.sz] at ih ⊢
    omega
theorem end_le (l : List Nd) (I P : Nat) (h : l.length + tot l ≤ 1048576) (hP : P ≤ 1) : endM (lens (l.take I)) P ≤ 6000000 := by
  rw [endM_eq]
  have h1 := lens_sum (l.take I)
  have h2 := tot_le l I
  have h3 : (lens (l.take I)).length ≤ l.length := by simp [lens]; omega
  omega

/-! ### A row of integers, marked -/
theorem grown_set {w w1 : World} {p j : Nat} (u : Value) (h : w.grownBy w1 (some p)) : w.grownBy (w1.setCell ⟨p, j, none⟩ u) (some p) :=
  ⟨h.os, h.tape, h.output, by simp; exact h.size, fun k hk hne => by
    rw [heap_setCell_other w1 ⟨p, j, none⟩ k u (fun e => hne (by rw [e]))]
    exact h.block k hk hne⟩
def RelMi (W : World) (g cap P n : Nat) (k i : Value) (wr : World) : Prop :=
  ∃ I : Nat, I ≤ n ∧ i = .int .i64 (I : Int) ∧ k = .int .i64 ((P + I : Nat) : Int) ∧ IBlk wr g cap (mkI P I) ∧ W.grownBy wr (some g)
set_option maxHeartbeats 1600000 in
theorem mark_ints (g cap n P : Nat) (l : List Int) (w : World) (hb : IBlk w g cap l) (hn : n ≤ cap) (hn2 : n ≤ 1048576) (hP : P ≤ 6000010) :
    Calls Tryz.prog 19 #[.slice (some ⟨g, 0, none⟩) n cap, .int .i64 (P : Int)] w fun e w' => e = .returned (.int .i64 ((P + n : Nat) : Int)) ∧ IBlk w' g cap (mkI P n) ∧ w.grownBy w' (some g) := by
  have HB0 := Lib.hid (show IBlk w g cap (mkI P 0) by
    obtain ⟨c, hc, hs, -, -⟩ := hb
    exact ⟨c, hc, hs, by simp [mkI], fun i hi => by simp [mkI] at hi⟩)
  clear hb
  go_enter Tryz.func19, Tryz.ntmps19
  go_wp2
  go_loopw [1, 5] (fun k i wr => RelMi w g cap P n k i wr) (fun _ i _ => n - (intOf i).toNat)
  case atStart => exact ⟨0, by omega, rfl, by simp, HB0.out, World.grownBy.refl w _⟩
  case round =>
    obtain ⟨I, hI, rfl, rfl, hblk, hgr⟩ := hrel
    have HK := Lib.hid hblk
    have HG := Lib.hid hgr
    clear hblk hgr
    obtain ⟨Q, hQ⟩ : ∃ Q, Q = P + I := ⟨_, rfl⟩
    rw [← hQ]
    have HQ := Lib.hid hQ
    have hQb : Q ≤ 8000000 := by omega
    clear hQ
    by_cases hlt : I < n
    · have hi1 : (I : Int) < (n : Int) := by omega
      obtain ⟨v0, e0⟩ := HK.out.some I (by omega)
      have f0 := HK.out.frozen I
      have HP2 := Lib.hid (show IBlk (wr.setCell ⟨g, I, none⟩ (.int .i64 (Q : Int))) g cap (mkI P (I + 1)) by
        have := HK.out.put (Q : Int) (by rw [mkI_len]; omega)
        rw [mkI_len] at this
        rw [mkI_succ, ← HQ.out]
        exact this)
      have HG1 := Lib.hid (grown_set (j := I) (.int .i64 (Q : Int)) HG.out)
      go_wp2
      go_roundw
      case rel => exact ⟨I + 1, by omega, by go_num, congrArg (Value.int .i64) (by have := HQ.out; omega), HP2.out, HG1.out⟩
      case measure => simp [intOf]; omega
    · obtain rfl : I = n := by omega
      go_wp2
      go_ret
      exact ⟨by rw [← HQ.out]; rfl, HK.out, HG.out⟩
theorem mark_ints0 (a : Option Addr) (cap : Nat) (k : Int) (w : World) :
    Calls Tryz.prog 19 #[.slice a 0 cap, .int .i64 k] w fun e w' => e = .returned (.int .i64 k) ∧ w = w' := by
  go_enter Tryz.func19, Tryz.ntmps19
  go_wp2
  go_loop [1, 5] (fun k' i => k' = .int .i64 k ∧ i = .int .i64 0) (fun _ _ => 0)
  case atStart => exact ⟨rfl, rfl⟩
  case round =>
    obtain ⟨rfl, rfl⟩ := hrel
    go_wp2
    go_ret
    exact ⟨rfl, rfl⟩

/-! ### A tree's fields, set -/
theorem tr_row {B : Nat} {w : World} {g n : Nat} {l : List Nd} {r : Nat → Nat} (h : Tr B w g n l r) {I : Nat} (hI : I < l.length) : ∃ a cap, w.cell? ⟨g, I * 5 + 4, none⟩ = some (.slice a l[I].kids.length cap) ∧ (l[I].kids = [] ∨ a = some ⟨r I, 0, none⟩ ∧ IBlk w (r I) cap l[I].kids ∧ B ≤ r I ∧ r I ≠ g) := by
  obtain ⟨⟨c, hc, hs, hl, hx⟩, -⟩ := h
  obtain ⟨v, ⟨_, _, _, _, h4⟩, a, cap, rfl, hk⟩ := hx I hI
  exact ⟨a, cap, by rw [cell_of_row w g _ _ _ _ hc]; exact h4, hk⟩
theorem tr_setF {B : Nat} {w : World} {g n : Nat} {l : List Nd} {r : Nat → Nat} (h : Tr B w g n l r) {I : Nat} (hI : I < l.length) (j : Nat) (u : Value) (x' : Nd) (hj : j < 5) (hk : x'.kids = l[I].kids)
    (hcc : ∀ c v, C5 c I l[I] v → I * 5 + 5 ≤ c.size → C5 (c.setIfInBounds (I * 5 + j) u) I x' v) : Tr B (w.setCell ⟨g, I * 5 + j, none⟩ u) g n (l.set I x') r := by
  obtain ⟨⟨c, hc, hs, hl, hx⟩, ha, hr⟩ := h
  have keepk : ∀ {r' : Nat} {q : Value} {m : List Int}, Kid B w g r' q m → Kid B (w.setCell ⟨g, I * 5 + j, none⟩ u) g r' q m := by
    rintro r' q m ⟨a, cap, e, h⟩
    refine ⟨a, cap, e, h.imp id ?_⟩
    rintro ⟨e1, e2, e3, e4⟩
    exact ⟨e1, e2.of_block (heap_setCell_other _ _ _ _ e4), e3, e4⟩
  refine ⟨⟨_, heap_setCell_same _ g _ _ _ _ hc, by simpa using hs, by simpa using hl, fun i hi => ?_⟩, fun i j' hij hj' => ha i j' hij (by simpa using hj'), fun i hi => by rw [show (w.setCell ⟨g, I * 5 + j, none⟩ u).heap.size = w.heap.size by simp]; exact hr i (by simpa using hi)⟩
  simp at hi
  obtain ⟨v, h5, hk'⟩ := hx i hi
  by_cases he : I = i
  · subst he
    simp only [List.getElem_set_self]
    exact ⟨v, hcc c v h5 (by omega), by rw [hk]; exact keepk hk'⟩
  · simp only [List.getElem_set_ne he]
    refine ⟨v, ?_, keepk hk'⟩
    obtain ⟨h0, h1, h2, h3, h4⟩ := h5
    unfold C5
    simp only [Array.getElem?_setIfInBounds]
    exact ⟨by rw [if_neg (by omega)]; exact h0, by rw [if_neg (by omega)]; exact h1, by rw [if_neg (by omega)]; exact h2, by rw [if_neg (by omega)]; exact h3, by rw [if_neg (by omega)]; exact h4⟩
theorem tr_setK {B : Nat} {w : World} {g n : Nat} {l : List Nd} {r : Nat → Nat} (h : Tr B w g n l r) {I : Nat} (hI : I < l.length) (P : Int) : Tr B (w.setCell ⟨g, I * 5, none⟩ (.int .i64 P)) g n (l.set I { l[I] with k := P }) r :=
  tr_setF h hI 0 (.int .i64 P) { l[I] with k := P } (by omega) rfl (fun c v h5 hs => by
    obtain ⟨h0, h1, h2, h3, h4⟩ := h5
    unfold C5
    simp only [Array.getElem?_setIfInBounds]
    exact ⟨by rw [if_pos (by first | trivial | omega), if_pos (by first | trivial | omega)], by rw [if_neg (by omega)]; exact h1, by rw [if_neg (by omega)]; exact h2, by rw [if_neg (by omega)]; exact h3, by rw [if_neg (by omega)]; exact h4⟩)
theorem tr_setO {B : Nat} {w : World} {g n : Nat} {l : List Nd} {r : Nat → Nat} (h : Tr B w g n l r) {I : Nat} (hI : I < l.length) (P : Int) : Tr B (w.setCell ⟨g, I * 5 + 1, none⟩ (.int .i64 P)) g n (l.set I { l[I] with op := P }) r :=
  tr_setF h hI 1 (.int .i64 P) { l[I] with op := P } (by omega) rfl (fun c v h5 hs => by
    obtain ⟨h0, h1, h2, h3, h4⟩ := h5
    unfold C5
    simp only [Array.getElem?_setIfInBounds]
    exact ⟨by rw [if_neg (by omega)]; exact h0, by rw [if_pos (by first | trivial | omega), if_pos (by first | trivial | omega)], by rw [if_neg (by omega)]; exact h2, by rw [if_neg (by omega)]; exact h3, by rw [if_neg (by omega)]; exact h4⟩)
theorem tr_setS {B : Nat} {w : World} {g n : Nat} {l : List Nd} {r : Nat → Nat} (h : Tr B w g n l r) {I : Nat} (hI : I < l.length) (s : ByteArray) : Tr B (w.setCell ⟨g, I * 5 + 2, none⟩ (.string s)) g n (l.set I { l[I] with s := s }) r :=
  tr_setF h hI 2 (.string s) { l[I] with s := s } (by omega) rfl (fun c v h5 hs => by
    obtain ⟨h0, h1, h2, h3, h4⟩ := h5
    unfold C5
    simp only [Array.getElem?_setIfInBounds]
    exact ⟨by rw [if_neg (by omega)]; exact h0, by rw [if_neg (by omega)]; exact h1, by rw [if_pos (by first | trivial | omega), if_pos (by first | trivial | omega)], by rw [if_neg (by omega)]; exact h3, by rw [if_neg (by omega)]; exact h4⟩)
theorem tr_setT {B : Nat} {w : World} {g n : Nat} {l : List Nd} {r : Nat → Nat} (h : Tr B w g n l r) {I : Nat} (hI : I < l.length) (s : ByteArray) : Tr B (w.setCell ⟨g, I * 5 + 3, none⟩ (.string s)) g n (l.set I { l[I] with t := s }) r :=
  tr_setF h hI 3 (.string s) { l[I] with t := s } (by omega) rfl (fun c v h5 hs => by
    obtain ⟨h0, h1, h2, h3, h4⟩ := h5
    unfold C5
    simp only [Array.getElem?_setIfInBounds]
    exact ⟨by rw [if_neg (by omega)]; exact h0, by rw [if_neg (by omega)]; exact h1, by rw [if_neg (by omega)]; exact h2, by rw [if_pos (by first | trivial | omega), if_pos (by first | trivial | omega)], by rw [if_neg (by omega)]; exact h4⟩)
/-- The row of node I is written. -/
theorem tr_setKids {B : Nat} {w w' : World} {g n : Nat} {l : List Nd} {r : Nat → Nat} (h : Tr B w g n l r) {I : Nat} (hI : I < l.length) (m : List Int) (hm : m.length = l[I].kids.length) {a : Option Addr} {cap : Nat}
    (hcell : w.cell? ⟨g, I * 5 + 4, none⟩ = some (.slice a l[I].kids.length cap)) (hne : r I ≠ g) (hB : B ≤ r I) (ha : a = some ⟨r I, 0, none⟩) (hg : w.grownBy w' (some (r I))) (hb : IBlk w' (r I) cap m) : Tr B w' g n (l.set I { l[I] with kids := m }) r := by
  have hlt := h.lt
  obtain ⟨⟨c, hc, hs, hl, hx⟩, has, hr⟩ := h
  refine ⟨⟨c, ?_, hs, by simpa using hl, fun i hi => ?_⟩, fun i j' hij hj' => has i j' hij (by simpa using hj'), fun i hi => Nat.lt_of_lt_of_le (hr i (by simpa using hi)) hg.size⟩
  · rw [hg.block g hlt (fun e => by injection e with e; exact hne e.symm)]; exact hc
  simp at hi
  obtain ⟨v, h5, hk'⟩ := hx i hi
  by_cases he : I = i
  · subst he
    simp only [List.getElem_set_self]
    have hv : v = .slice a l[I].kids.length cap := by
      have h4 := h5.2.2.2.2
      rw [cell_of_row w g _ _ _ _ hc, h4] at hcell
      exact Option.some.inj hcell
    refine ⟨v, h5, a, cap, by rw [hv]; simp [hm], .inr ⟨ha, hb, hB, hne⟩⟩
  · simp only [List.getElem_set_ne he]
    obtain ⟨a2, c2, e0, hk2⟩ := hk'
    refine ⟨v, h5, a2, c2, e0, hk2.imp id ?_⟩
    rintro ⟨e1, e2, e3, e4⟩
    have hri : r i ≠ r I := by
      rcases Nat.lt_or_ge I i with h' | h'
      · exact (has I i h' hi).symm
      · exact has i I (by have : I ≠ i := he; omega) hI
    refine ⟨e1, e2.of_block (hg.block (r i) e2.lt (fun e => by injection e with e; exact hri e)), e3, e4⟩
end Go.Proofs.YtckeepjfbpphaaaGreatDoor.mark
