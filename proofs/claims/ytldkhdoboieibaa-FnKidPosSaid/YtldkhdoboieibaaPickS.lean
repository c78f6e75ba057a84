/-
  The verifier's drawing functions of small strings, exactly: spec.l1Pick, l2Word, l4Num, l4Str, l4Ere; l7Leaf.
-/
import Derived.Test.YtldkhdoboieibaaDrawBase
import Derived.Test.YtldkhdoboieibaaMakeT
namespace Go.Proofs.Ytldkhdoboieibaa.draw
open Go.ChangeShapes Go.WideShapes Go.ChangeAt Go.RowKit
open nd
set_option linter.unusedVariables false

abbrev St := Nat × Int
def strCells (l : List ByteArray) : Array Value := (l.map Value.string).toArray
theorem lt_of_blk {w : World} {g : Nat} {o : Obj} (h : w.heap[g]? = some o) : g < w.heap.size := lt_of_heap h
/-- A pick. -/
def pickS (L : List ByteArray) (zs : List Int) (s : St) : ByteArray := L.getD (belowF zs L.length s).1.toNat ⟨#[]⟩
theorem pick_str {B p len cap : Nat} {w : World} {a : Option Addr} {zs : List Int} {s : Nat × Int} (q n : Nat) (L : List ByteArray) (H : In B w p a len cap zs s) (hq : w.heap[q]? = some (.cells (strCells L) 9 (0, 0))) (hL : L.length = n) (hn : 0 < n) (hqp : q ≠ p) (hn2 : n ≤ 1000) :
    Calls Try.prog 56 #[.pointer (some ⟨p, 0, none⟩), .slice (some ⟨q, 0, none⟩) n n] w (Out B p a len cap zs (.string (pickS L zs s)) (belowF zs n s).2 w) := by
  have HI := Lib.hid H
  clear H
  have hb := belowF_bd zs n s (by omega)
  obtain ⟨K, hK⟩ : ∃ K : Nat, (belowF zs n s).1 = K := ⟨(belowF zs n s).1.toNat, by omega⟩
  have HK := Lib.hid hK
  rw [hK] at hb
  have HQ := Lib.hid hq
  have HP := Lib.hid (show pickS L zs s = L.getD K ⟨#[]⟩ by unfold pickS; rw [hL, hK]; rfl)
  clear hq hK
  go_enter Try.func56, Try.ntmps56
  go_wp2_with fail
  refine (below_any n HI.out).mono ?_
  rintro e w1 ⟨he, I1, G1⟩
  rw [HK.out] at he
  subst he
  have HI1 := Lib.hid I1
  have hq1 : w1.heap[q]? = some (.cells (strCells L) 9 (0, 0)) := by
    have hlt : q < w.heap.size := lt_of_blk HQ.out
    rw [G1.block q hlt (by simpa using hqp)]
    exact HQ.out
  have hKL : K < L.length := by omega
  have hcell : w1.cell? ⟨q, K, none⟩ = some (.string (L.getD K ⟨#[]⟩)) := by
    rw [cell_of_row w1 q K _ _ _ hq1]
    simp [strCells, hKL]
  obtain ⟨z, hz⟩ : ∃ z, z = L.getD K ⟨#[]⟩ := ⟨_, rfl⟩
  rw [← hz] at hcell HP
  clear I1 hq1 hz
  go_wp2
  go_ret
  exact ⟨by rw [HP.out]; rfl, HI1.out, G1⟩
theorem pick_lit {B p len cap : Nat} {w : World} {a : Option Addr} {zs : List Int} {s : Nat × Int} (n : Nat) (L : List ByteArray) (H : In B w p a len cap zs s) (hL : L.length = n) (hn : 0 < n) (hn2 : n ≤ 1000) :
    Calls Try.prog 56 #[.pointer (some ⟨p, 0, none⟩), .slice (some ⟨w.heap.size, 0, none⟩) n n] (w.alloc (.cells (strCells L) 9)) (fun e w' => Out B p a len cap zs (.string (pickS L zs s)) (belowF zs n s).2 w e w' ∧ w.heap.size < w'.heap.size) := by
  have hlt := H.lt
  refine (pick_str w.heap.size n L (H.keep ((Below.refl w.heap.size w).alloc (Nat.le_refl _) _) hlt) (heap_alloc_new w _) hL hn (by omega) hn2).mono ?_
  rintro e w' ⟨he, hI, hG⟩
  exact ⟨⟨he, hI, grown_trans (World.grownBy_alloc w _ _) hG⟩, by have := hG.size; simp at this; omega⟩
def l2WordL : List ByteArray := [⟨#[120]⟩, ⟨#[121]⟩, ⟨#[110]⟩, ⟨#[105]⟩, ⟨#[97, 114, 114]⟩, ⟨#[78, 82]⟩, ⟨#[70, 83]⟩, ⟨#[116, 111, 116, 97, 108]⟩, ⟨#[97, 49]⟩, ⟨#[95, 116]⟩, ⟨#[99, 111, 117, 110, 116]⟩]
theorem x_l2Word {B p len cap : Nat} {w : World} {a : Option Addr} {zs : List Int} {s : Nat × Int} (H : In B w p a len cap zs s) :
    Calls Try.prog 54 #[.pointer (some ⟨p, 0, none⟩)] w (fun e w' => Out B p a len cap zs (.string (pickS l2WordL zs s)) (belowF zs 11 s).2 w e w' ∧ w.heap.size < w'.heap.size) := by
  have HI := Lib.hid H
  clear H
  go_enter Try.func54, Try.ntmps54
  go_wp2_with fail
  refine (pick_lit 11 l2WordL HI.out rfl (by decide) (by decide)).mono ?_
  rintro e w1 ⟨⟨rfl, I1, G1⟩, Z1⟩
  have HI1 := Lib.hid I1
  clear I1
  go_wp2
  go_ret
  exact ⟨⟨rfl, HI1.out, G1⟩, Z1⟩
def l4NumL : List ByteArray := [⟨#[48]⟩, ⟨#[49]⟩, ⟨#[52, 50]⟩, ⟨#[51, 46, 53]⟩, ⟨#[46, 53]⟩, ⟨#[55, 46]⟩, ⟨#[49, 101, 51]⟩, ⟨#[50, 69, 45, 52]⟩, ⟨#[49, 48, 46, 50, 53, 101, 43, 49]⟩]
theorem x_l4Num {B p len cap : Nat} {w : World} {a : Option Addr} {zs : List Int} {s : Nat × Int} (H : In B w p a len cap zs s) :
    Calls Try.prog 70 #[.pointer (some ⟨p, 0, none⟩)] w (fun e w' => Out B p a len cap zs (.string (pickS l4NumL zs s)) (belowF zs 9 s).2 w e w' ∧ w.heap.size < w'.heap.size) := by
  have HI := Lib.hid H
  clear H
  go_enter Try.func70, Try.ntmps70
  go_wp2_with fail
  refine (pick_lit 9 l4NumL HI.out rfl (by decide) (by decide)).mono ?_
  rintro e w1 ⟨⟨rfl, I1, G1⟩, Z1⟩
  have HI1 := Lib.hid I1
  clear I1
  go_wp2
  go_ret
  exact ⟨⟨rfl, HI1.out, G1⟩, Z1⟩
def l4StrL : List ByteArray := [⟨#[34, 34]⟩, ⟨#[34, 97, 34]⟩, ⟨#[34, 120, 32, 121, 34]⟩, ⟨#[34, 113, 92, 34, 113, 34]⟩, ⟨#[34, 92, 110, 34]⟩, ⟨#[34, 35, 110, 111, 34]⟩, ⟨#[34, 47, 34]⟩]
theorem x_l4Str {B p len cap : Nat} {w : World} {a : Option Addr} {zs : List Int} {s : Nat × Int} (H : In B w p a len cap zs s) :
    Calls Try.prog 71 #[.pointer (some ⟨p, 0, none⟩)] w (fun e w' => Out B p a len cap zs (.string (pickS l4StrL zs s)) (belowF zs 7 s).2 w e w' ∧ w.heap.size < w'.heap.size) := by
  have HI := Lib.hid H
  clear H
  go_enter Try.func71, Try.ntmps71
  go_wp2_with fail
  refine (pick_lit 7 l4StrL HI.out rfl (by decide) (by decide)).mono ?_
  rintro e w1 ⟨⟨rfl, I1, G1⟩, Z1⟩
  have HI1 := Lib.hid I1
  clear I1
  go_wp2
  go_ret
  exact ⟨⟨rfl, HI1.out, G1⟩, Z1⟩
def l4EreL : List ByteArray := [⟨#[47, 97, 47]⟩, ⟨#[47, 94, 120, 43, 36, 47]⟩, ⟨#[47, 97, 92, 47, 98, 47]⟩, ⟨#[47, 61, 47]⟩, ⟨#[47, 32, 47]⟩, ⟨#[47, 91, 48, 45, 57, 93, 47]⟩]
theorem x_l4Ere {B p len cap : Nat} {w : World} {a : Option Addr} {zs : List Int} {s : Nat × Int} (H : In B w p a len cap zs s) :
    Calls Try.prog 72 #[.pointer (some ⟨p, 0, none⟩)] w (fun e w' => Out B p a len cap zs (.string (pickS l4EreL zs s)) (belowF zs 6 s).2 w e w' ∧ w.heap.size < w'.heap.size) := by
  have HI := Lib.hid H
  clear H
  go_enter Try.func72, Try.ntmps72
  go_wp2_with fail
  refine (pick_lit 6 l4EreL HI.out rfl (by decide) (by decide)).mono ?_
  rintro e w1 ⟨⟨rfl, I1, G1⟩, Z1⟩
  have HI1 := Lib.hid I1
  clear I1
  go_wp2
  go_ret
  exact ⟨⟨rfl, HI1.out, G1⟩, Z1⟩

/-- A tree of one's own from S on, no part of which lies in the cursor's block p. -/
def TR (p S : Nat) (v : Value) (q : List Nd) (w : World) : Prop := p < S ∧ ∃ z r, z.map (·.1) = q ∧ PT S v z r w ∧ ∀ i (h : i < z.length), z[i].2 ≠ .slice none 0 0 → r i ≠ p
theorem pt_kept2 {B q : Nat} {v : Value} {z : List (Nd × Value)} {r : Nat → Nat} {w w' : World} (h : PT B v z r w) (hg : w.grownBy w' (some q)) (hv : v.ownBlock ≠ some q) (hr : ∀ i (h : i < z.length), z[i].2 ≠ .slice none 0 0 → r i ≠ q) : PT B v z r w' :=
  ⟨World.ownsRow.kept h.own hg (.inr hv), fun i hi => by
    rcases h.kid i hi with hk | ⟨cap, e1, e2, e3⟩
    · exact .inl hk
    · exact .inr ⟨cap, e1, e2.of_block (hg.block _ (h.lt i hi) (by simpa using hr i hi (by rw [e1]; simp))), e3⟩, h.off, h.asc, fun i hi => Nat.lt_of_lt_of_le (h.lt i hi) hg.size⟩
theorem TR.form {p S : Nat} {v : Value} {q : List Nd} {w : World} (h : TR p S v q w) : ∃ a c, v = .slice a q.length c := by
  obtain ⟨_, z, r, hz, hp, _⟩ := h
  obtain ⟨a, c, e⟩ := hp.form
  exact ⟨a, c, by rw [e, ← hz, List.length_map]⟩
theorem TR.lies {p S n c : Nat} {a : Option Addr} {q : List Nd} {w : World} (h : TR p S (.slice a n c) q w) : Lies w.heap.size w a q := by
  obtain ⟨_, z, r, hz, hp, _⟩ := h
  rw [← hz]
  exact hp.lies
theorem TR.over {p S : Nat} {v : Value} {q : List Nd} {w w' : World} (h : TR p S v q w) (hb : Below w.heap.size w w') : TR p S v q w' := by
  obtain ⟨h0, z, r, hz, hp, hr⟩ := h
  exact ⟨h0, z, r, hz, hp.keep hb (Nat.le_refl _), hr⟩
theorem TR.grown {p S : Nat} {v : Value} {q : List Nd} {w w' : World} (h : TR p S v q w) (hg : w.grownBy w' (some p)) : TR p S v q w' := by
  obtain ⟨h0, z, r, hz, hp, hr⟩ := h
  refine ⟨h0, z, r, hz, pt_kept2 hp hg (fun e => ?_) hr, hr⟩
  have := (World.ownsRow.lt hp.own p e).1
  omega
theorem TR.down {p S S' : Nat} {v : Value} {q : List Nd} {w : World} (h : TR p S v q w) (hS : S' ≤ S) (hp : p < S') : TR p S' v q w := by
  obtain ⟨h0, z, r, hz, hpt, hr⟩ := h
  exact ⟨hp, z, r, hz, hpt.up hS, hr⟩
/-- What a function that draws a tree answers: the tree q, in memory of its own; the cursor at s'. -/
def TOut (B p : Nat) (a : Option Addr) (len cap : Nat) (zs : List Int) (q : List Nd) (s' : St) (w : World) (e : Ending) (w' : World) : Prop :=
  ∃ v, e = .returned v ∧ TR p w.heap.size v q w' ∧ In B w' p a len cap zs s' ∧ w.grownBy w' (some p)
/-- One node without kids. -/
theorem PT.one {B g0 : Nat} {w : World} (hB : B ≤ w.heap.size) (hg : g0 < w.heap.size) (n : Nd) (hk : n.kids = []) : PT B (.slice (some ⟨w.heap.size, 0, none⟩) 1 1) [(n, .slice none 0 0)] (fun _ => g0) (w.alloc (.cells #[.int .i64 n.k, .int .i64 n.op, .string n.s, .string n.t, .slice none 0 0] 26)) := by
  refine ⟨World.ownsRow_lit w _ 1 hB (by unfold maxLen; omega) rfl, fun i hi => ?_, fun i hi e => ?_, fun i j hij hj => ?_, fun i hi => ?_⟩
  · simp at hi
    subst hi
    exact .inl ⟨rfl, hk⟩
  · injection e with e
    simp at e
    omega
  · simp at hj; omega
  · simp; omega
def leaf (k : Int) (x : ByteArray) : List Nd := [⟨k, 0, x, ⟨#[]⟩, []⟩]
/-- spec.l7Leaf. -/
def leafT (zs : List Int) (s : St) : List Nd × St :=
  let b := belowF zs 7 s
  match b.1.toNat with
  | 0 => (leaf 2 (pickS l4NumL zs b.2), (belowF zs 9 b.2).2)
  | 1 => (leaf 3 (pickS l4StrL zs b.2), (belowF zs 7 b.2).2)
  | 2 => if (belowF zs 2 b.2).1 = 0 then (leaf 4 (pickS l4EreL zs (belowF zs 2 b.2).2), (belowF zs 6 (belowF zs 2 b.2).2).2) else (leaf 1 (pickS l2WordL zs (belowF zs 2 b.2).2), (belowF zs 11 (belowF zs 2 b.2).2).2)
  | _ => (leaf 1 (pickS l2WordL zs b.2), (belowF zs 11 b.2).2)
theorem TOut.leaf0 {B p len cap : Nat} {a : Option Addr} {zs : List Int} {s' : St} {w w1 : World} (k : Int) (x : ByteArray) (hI : In B w1 p a len cap zs s') (hp : p < w.heap.size) (hG : w.grownBy w1 (some p)) :
    TOut B p a len cap zs (leaf k x) s' w (.returned (.slice (some ⟨w1.heap.size, 0, none⟩) 1 1)) (w1.alloc (.cells #[.int .i64 k, .int .i64 0, .string x, .string ⟨#[]⟩, .slice none 0 0] 26)) :=
  ⟨_, rfl, ⟨hp, _, _, rfl, PT.one hG.size (Nat.lt_of_lt_of_le hp hG.size) ⟨k, 0, x, ⟨#[]⟩, []⟩ rfl, fun i hi h => by simp at hi; subst hi; exact absurd rfl h⟩, hI.keep ((Below.refl w1.heap.size w1).alloc (Nat.le_refl _) _) hI.lt, grown_below hG ((Below.refl w.heap.size w1).alloc hG.size _) rfl⟩
theorem TOut.leaf {B p len cap : Nat} {a : Option Addr} {zs : List Int} {s' : St} {w w1 : World} (k : Int) (x : ByteArray) (hI : In B w1 p a len cap zs s') (hp : p < w.heap.size) (hZ : w.heap.size < w1.heap.size) (hG : w.grownBy w1 (some p)) :
    TOut B p a len cap zs (leaf k x) s' w (.returned (.slice (some ⟨w1.heap.size, 0, none⟩) 1 1)) (w1.alloc (.cells #[.int .i64 k, .int .i64 0, .string x, .string ⟨#[]⟩, .slice none 0 0] 26)) := TOut.leaf0 k x hI hp hG
set_option maxHeartbeats 3200000 in
theorem leaf_any {B p len cap : Nat} {w : World} {a : Option Addr} {zs : List Int} {s : Nat × Int} (H : In B w p a len cap zs s) :
    Calls Try.prog 51 #[.pointer (some ⟨p, 0, none⟩)] w (TOut B p a len cap zs (leafT zs s).1 (leafT zs s).2 w) := by
  have HI := Lib.hid H
  clear H
  have hb := belowF_bd zs 7 s (by omega)
  obtain ⟨K, hK⟩ : ∃ K : Nat, (belowF zs 7 s).1 = K := ⟨(belowF zs 7 s).1.toNat, by omega⟩
  have HK := Lib.hid hK
  rw [hK] at hb
  rcases (show K = 0 ∨ K = 1 ∨ K = 2 ∨ K = 3 ∨ K = 4 ∨ K = 5 ∨ K = 6 by omega) with rfl | rfl | rfl | rfl | rfl | rfl | rfl
  · have HQ := Lib.hid (show leafT zs s = (leaf 2 (pickS l4NumL zs (belowF zs 7 s).2), (belowF zs 9 (belowF zs 7 s).2).2) by simp only [leafT, hK]; rfl)
    clear hK
    go_enter Try.func51, Try.ntmps51
    go_wp2_with fail
    refine (below_any 7 HI.out).mono ?_
    rintro e w1 ⟨he, I1, G1⟩
    rw [HK.out] at he
    subst he
    go_wp2_with fail
    refine (x_l4Num I1).mono ?_
    rintro e w2 ⟨⟨rfl, I2, G2⟩, Z2⟩
    go_wp2
    go_ret
    rw [HQ.out]
    exact TOut.leaf 2 _ I2 HI.out.lt (Nat.lt_of_le_of_lt G1.size Z2) (grown_trans G1 G2)
  · have HQ := Lib.hid (show leafT zs s = (leaf 3 (pickS l4StrL zs (belowF zs 7 s).2), (belowF zs 7 (belowF zs 7 s).2).2) by simp only [leafT, hK]; rfl)
    clear hK
    go_enter Try.func51, Try.ntmps51
    go_wp2_with fail
    refine (below_any 7 HI.out).mono ?_
    rintro e w1 ⟨he, I1, G1⟩
    rw [HK.out] at he
    subst he
    go_wp2_with fail
    refine (x_l4Str I1).mono ?_
    rintro e w2 ⟨⟨rfl, I2, G2⟩, Z2⟩
    go_wp2
    go_ret
    rw [HQ.out]
    exact TOut.leaf 3 _ I2 HI.out.lt (Nat.lt_of_le_of_lt G1.size Z2) (grown_trans G1 G2)
  · obtain ⟨c, hc⟩ : ∃ c, c = belowF zs 2 (belowF zs 7 s).2 := ⟨_, rfl⟩
    have HC := Lib.hid hc
    have hif : leafT zs s = (if c.1 = 0 then (leaf 4 (pickS l4EreL zs c.2), (belowF zs 6 c.2).2) else (leaf 1 (pickS l2WordL zs c.2), (belowF zs 11 c.2).2)) := by simp only [leafT, hK, hc]; rfl
    by_cases hc0 : c.1 = 0
    · have HQ := Lib.hid (show leafT zs s = (leaf 4 (pickS l4EreL zs c.2), (belowF zs 6 c.2).2) from hif.trans (if_pos hc0))
      have hcb : (c.1 == 0) = true := by rw [hc0]; rfl
      clear hK hif hc0 hc
      go_enter Try.func51, Try.ntmps51
      go_wp2_with fail
      refine (below_any 7 HI.out).mono ?_
      rintro e w1 ⟨he, I1, G1⟩
      rw [HK.out] at he
      subst he
      go_wp2_with fail
      refine (once_any 2 I1).mono ?_
      rintro e w2 ⟨he, I2, G2⟩
      rw [← HC.out, hcb] at he
      rw [← HC.out] at I2
      subst he
      go_wp2_with fail
      refine (x_l4Ere I2).mono ?_
      rintro e w3 ⟨⟨rfl, I3, G3⟩, Z3⟩
      go_wp2
      go_ret
      rw [HQ.out]
      exact TOut.leaf 4 _ I3 HI.out.lt (Nat.lt_of_le_of_lt (grown_trans G1 G2).size Z3) (grown_trans (grown_trans G1 G2) G3)
    · have HQ := Lib.hid (show leafT zs s = (leaf 1 (pickS l2WordL zs c.2), (belowF zs 11 c.2).2) from hif.trans (if_neg hc0))
      have hcb : (c.1 == 0) = false := by simpa using hc0
      clear hK hif hc0 hc
      go_enter Try.func51, Try.ntmps51
      go_wp2_with fail
      refine (below_any 7 HI.out).mono ?_
      rintro e w1 ⟨he, I1, G1⟩
      rw [HK.out] at he
      subst he
      go_wp2_with fail
      refine (once_any 2 I1).mono ?_
      rintro e w2 ⟨he, I2, G2⟩
      rw [← HC.out, hcb] at he
      rw [← HC.out] at I2
      subst he
      go_wp2_with fail
      refine (x_l2Word I2).mono ?_
      rintro e w3 ⟨⟨rfl, I3, G3⟩, Z3⟩
      go_wp2
      go_ret
      rw [HQ.out]
      exact TOut.leaf 1 _ I3 HI.out.lt (Nat.lt_of_le_of_lt (grown_trans G1 G2).size Z3) (grown_trans (grown_trans G1 G2) G3)
  · have HQ := Lib.hid (show leafT zs s = (leaf 1 (pickS l2WordL zs (belowF zs 7 s).2), (belowF zs 11 (belowF zs 7 s).2).2) by simp only [leafT, hK]; rfl)
    clear hK
    go_enter Try.func51, Try.ntmps51
    go_wp2_with fail
    refine (below_any 7 HI.out).mono ?_
    rintro e w1 ⟨he, I1, G1⟩
    rw [HK.out] at he
    subst he
    go_wp2_with fail
    refine (x_l2Word I1).mono ?_
    rintro e w2 ⟨⟨rfl, I2, G2⟩, Z2⟩
    go_wp2
    go_ret
    rw [HQ.out]
    exact TOut.leaf 1 _ I2 HI.out.lt (Nat.lt_of_le_of_lt G1.size Z2) (grown_trans G1 G2)
  · have HQ := Lib.hid (show leafT zs s = (leaf 1 (pickS l2WordL zs (belowF zs 7 s).2), (belowF zs 11 (belowF zs 7 s).2).2) by simp only [leafT, hK]; rfl)
    clear hK
    go_enter Try.func51, Try.ntmps51
    go_wp2_with fail
    refine (below_any 7 HI.out).mono ?_
    rintro e w1 ⟨he, I1, G1⟩
    rw [HK.out] at he
    subst he
    go_wp2_with fail
    refine (x_l2Word I1).mono ?_
    rintro e w2 ⟨⟨rfl, I2, G2⟩, Z2⟩
    go_wp2
    go_ret
    rw [HQ.out]
    exact TOut.leaf 1 _ I2 HI.out.lt (Nat.lt_of_le_of_lt G1.size Z2) (grown_trans G1 G2)
  · have HQ := Lib.hid (show leafT zs s = (leaf 1 (pickS l2WordL zs (belowF zs 7 s).2), (belowF zs 11 (belowF zs 7 s).2).2) by simp only [leafT, hK]; rfl)
    clear hK
    go_enter Try.func51, Try.ntmps51
    go_wp2_with fail
    refine (below_any 7 HI.out).mono ?_
    rintro e w1 ⟨he, I1, G1⟩
    rw [HK.out] at he
    subst he
    go_wp2_with fail
    refine (x_l2Word I1).mono ?_
    rintro e w2 ⟨⟨rfl, I2, G2⟩, Z2⟩
    go_wp2
    go_ret
    rw [HQ.out]
    exact TOut.leaf 1 _ I2 HI.out.lt (Nat.lt_of_le_of_lt G1.size Z2) (grown_trans G1 G2)
  · have HQ := Lib.hid (show leafT zs s = (leaf 1 (pickS l2WordL zs (belowF zs 7 s).2), (belowF zs 11 (belowF zs 7 s).2).2) by simp only [leafT, hK]; rfl)
    clear hK
    go_enter Try.func51, Try.ntmps51
    go_wp2_with fail
    refine (below_any 7 HI.out).mono ?_
    rintro e w1 ⟨he, I1, G1⟩
    rw [HK.out] at he
    subst he
    go_wp2_with fail
    refine (x_l2Word I1).mono ?_
    rintro e w2 ⟨⟨rfl, I2, G2⟩, Z2⟩
    go_wp2
    go_ret
    rw [HQ.out]
    exact TOut.leaf 1 _ I2 HI.out.lt (Nat.lt_of_le_of_lt G1.size Z2) (grown_trans G1 G2)
end Go.Proofs.Ytldkhdoboieibaa.draw
