/-
  ParentOf of both sides: the first node that has i among its kids ('parentF'): contracts; slices.Index, Contains at []int, IndexFunc at []Node.
-/
import Derived.Test.YtkijebbggcbemaaShapeImpl
import Derived.Test.YtkijebbggcbemaaSameFunc
namespace Go.Proofs.Ytkijebbggcbemaa.nd
open Go.ChangeShapes Go.WideShapes Go.ChangeAt Go.RowKit
set_option linter.unusedVariables false

/-- The first place of x in a list of integers; -1. -/
def findZ (x : Int) : List Int → Nat → Int
  | [], _ => -1
  | y :: l, k => if y = x then (k : Int) else findZ x l (k + 1)
theorem findZ_step {x : Int} {l : List Int} {K : Nat} (h : K < l.length) : findZ x (l.drop K) K = if l[K] = x then (K : Int) else findZ x (l.drop (K + 1)) (K + 1) := by
  rw [List.drop_eq_getElem_cons h, findZ]
theorem findZ_end {x : Int} {l : List Int} : findZ x (l.drop l.length) l.length = -1 := by rw [List.drop_length]; rfl
theorem findZ_mem (x : Int) : ∀ (l : List Int) (k : Nat), 0 ≤ findZ x l k ↔ x ∈ l := by
  intro l
  induction l with
  | nil => intro k; simp [findZ]
  | cons y l ih =>
    intro k
    unfold findZ
    by_cases h : y = x
    · rw [if_pos h, h]; simp
    · rw [if_neg h, ih, List.mem_cons]
      constructor
      · exact .inr
      · rintro (e | e)
        · exact absurd e.symm h
        · exact e
def RelIx (x : Int) (l : List Int) (i : Value) : Prop :=
  ∃ K : Nat, K ≤ l.length ∧ i = .int .i64 (K : Int) ∧ findZ x (l.drop K) K = findZ x l 0

set_option maxHeartbeats 800000 in
theorem lib_index (l : List Int) (x : Int) (a : Option Addr) (cap : Nat) (w : World) (hn : l.length ≤ 1048576) (hc : Ints w.heap.size w a l) :
    Calls Try.prog 42 #[.slice a l.length cap, .int .i64 x] w fun e w' => e = .returned (.int .i64 (findZ x l 0)) ∧ w = w' := by
  have HC := Lib.hid hc
  clear hc
  go_enter Try.func42, Try.ntmps42
  go_wp2
  go_loop [8] (fun i => RelIx x l i) (fun i => l.length - (intOf i).toNat)
  case atStart => exact ⟨0, by omega, rfl, rfl⟩
  case round =>
    obtain ⟨K, hK, rfl, hf⟩ := hrel
    have HF := Lib.hid hf
    clear hf
    by_cases hlt : K < l.length
    · obtain ⟨b, o, rfl, hb, hcell⟩ := ints_at HC.out hlt
      have c0 := hcell K hlt
      have HS := Lib.hid (findZ_step (x := x) hlt)
      obtain ⟨y, hy⟩ : ∃ y, y = l[K] := ⟨_, rfl⟩
      rw [← hy] at c0 HS
      have hi1 : (K : Int) < (l.length : Int) := by omega
      have hi0 : (0 : Int) ≤ (K : Int) := by omega
      clear hy hcell
      by_cases he : y = x
      · have HE := Lib.hid (show findZ x l 0 = (K : Int) by rw [← HF.out, HS.out, if_pos he])
        obtain ⟨q1, q2⟩ := eq_facts he
        obtain ⟨q3, q4⟩ := eq_facts he.symm
        clear he
        go_wp2
        go_ret
        exact ⟨by rw [HE.out]; rfl, rfl⟩
      · have HE := Lib.hid (show findZ x (l.drop (K + 1)) (K + 1) = findZ x l 0 by rw [← HF.out, HS.out, if_neg he])
        obtain ⟨q1, q2⟩ := ne_facts he
        obtain ⟨q3, q4⟩ := ne_facts (fun h => he (Eq.symm h))
        clear he
        go_wp2
        go_round
        case rel => exact ⟨K + 1, by omega, by go_num, HE.out⟩
        case measure => simp [intOf]; omega
    · obtain rfl : K = l.length := by omega
      have HE := Lib.hid (show findZ x l 0 = -1 by rw [← HF.out]; exact findZ_end)
      go_wp2
      go_ret
      exact ⟨by rw [HE.out]; rfl, rfl⟩

theorem lib_contains (l : List Int) (x : Int) (a : Option Addr) (cap : Nat) (w : World) (hn : l.length ≤ 1048576) (hc : Ints w.heap.size w a l) :
    Calls Try.prog 35 #[.slice a l.length cap, .int .i64 x] w fun e w' => e = .returned (.bool (decide (x ∈ l))) ∧ w = w' := by
  have HX := Lib.hid (lib_index l x a cap w hn hc)
  clear hc
  obtain ⟨z, hz⟩ : ∃ z, z = findZ x l 0 := ⟨_, rfl⟩
  have HZ := Lib.hid hz
  have hiff := findZ_mem x l 0
  rw [← hz] at hiff
  by_cases h : 0 ≤ z
  · have HE := Lib.hid (show decide (x ∈ l) = true from decide_eq_true (hiff.1 h))
    clear hiff hz
    go_enter Try.func35, Try.ntmps35
    go_wp2_with fail
    refine HX.out.mono ?_
    rintro e w2 ⟨rfl, rfl⟩
    rw [← HZ.out]
    go_wp2
    go_ret
    exact ⟨by rw [HE.out]; rfl, rfl⟩
  · have HE := Lib.hid (show decide (x ∈ l) = false from decide_eq_false (fun hm => h (hiff.2 hm)))
    have hd : decide (0 ≤ z) = false := decide_eq_false h
    clear hiff hz h
    go_enter Try.func35, Try.ntmps35
    go_wp2_with fail
    refine HX.out.mono ?_
    rintro e w2 ⟨rfl, rfl⟩
    rw [← HZ.out]
    go_wp2
    go_ret
    exact ⟨by rw [HE.out]; rfl, rfl⟩

/-- The first node that has x among its kids. -/
def findN (x : Int) : List Nd → Nat → Int
  | [], _ => -1
  | n :: l, k => if x ∈ n.kids then (k : Int) else findN x l (k + 1)
theorem findN_yes {x : Int} {l : List Nd} {K : Nat} (h : K < l.length) (hx : x ∈ l[K].kids) : findN x (l.drop K) K = (K : Int) := by
  rw [List.drop_eq_getElem_cons h, findN, if_pos hx]
theorem findN_no {x : Int} {l : List Nd} {K : Nat} (h : K < l.length) (hx : ¬ x ∈ l[K].kids) : findN x (l.drop K) K = findN x (l.drop (K + 1)) (K + 1) := by
  rw [List.drop_eq_getElem_cons h, findN, if_neg hx]
theorem findN_end {x : Int} {l : List Nd} : findN x (l.drop l.length) l.length = -1 := by rw [List.drop_length]; rfl
def parentF (x : Int) (l : List Nd) : Int := if shape l = true then findN x l 0 else -1

/-- The closure: has the node what the box holds among its kids? -/
theorem has_kid (n : Nd) (x : Int) (g : Nat) (a : Option Addr) (cap : Nat) (w : World) (hn : n.kids.length ≤ 1048576) (hg : w.heap[g]? = some (.cells #[.int .i64 x] 3 (0, 0))) (hc : Ints w.heap.size w a n.kids) :
    Calls Try.prog 34 #[.agg #[.int .i64 n.k, .int .i64 n.op, .string n.s, .string n.t, .slice a n.kids.length cap], .pointer (some ⟨g, 0, none⟩)] w fun e w' => e = .returned (.bool (decide (x ∈ n.kids))) ∧ Below w.heap.size w w' := by
  have HC := Lib.hid hc
  have hcell : w.cell? ⟨g, 0, none⟩ = some (.int .i64 x) := by rw [cell_of_row _ _ 0 _ _ _ hg]; rfl
  have D0 : ∀ z, (w.alloc z).cell? ⟨g, 0, none⟩ = some (.int .i64 x) := fun z => cell_over z hcell
  clear hc hg hcell
  go_enter Try.func34, Try.ntmps34
  go_wp2_with fail
  have hb0 := (Below.refl w.heap.size w).alloc (Nat.le_refl _) (.cells #[.int .i64 n.k, .int .i64 n.op, .string n.s, .string n.t, .slice a n.kids.length cap] 35)
  refine (lib_contains n.kids x a cap _ hn ((HC.out.keep hb0 (Nat.le_refl _)).up hb0.size)).mono ?_
  rintro e w2 ⟨rfl, rfl⟩
  go_wp2
  go_ret
  exact ⟨rfl, hb0⟩

def RelFN (B g : Nat) (W : World) (x : Int) (l : List Nd) (i : Value) (wr : World) : Prop :=
  ∃ K : Nat, K ≤ l.length ∧ i = .int .i64 (K : Int) ∧ findN x (l.drop K) K = findN x l 0 ∧ Below B W wr

set_option maxHeartbeats 800000 in
theorem lib_find (l : List Nd) (x : Int) (g : Nat) (a : Option Addr) (cap : Nat) (w : World) (hn : l.length ≤ 1048576) (hk : ∀ t ∈ l, t.kids.length ≤ 1048576) (hg : w.heap[g]? = some (.cells #[.int .i64 x] 3 (0, 0))) (hc : Lies w.heap.size w a l) :
    Calls Try.prog 33 #[.slice a l.length cap, .func (.func 34) #[] #[.pointer (some ⟨g, 0, none⟩)]] w fun e w' => e = .returned (.int .i64 (findN x l 0)) ∧ Below w.heap.size w w' := by
  have HC := Lib.hid hc
  have HK := Lib.hid hk
  have HG := Lib.hid hg
  have hglt := lt_of_heap hg
  clear hc hk hg
  go_enter Try.func33, Try.ntmps33
  go_wp2
  go_loopw [8] (fun i wr => RelFN w.heap.size g w x l i wr) (fun i _ => l.length - (intOf i).toNat)
  case atStart => exact ⟨0, by omega, rfl, rfl, Below.refl _ _⟩
  case round =>
    obtain ⟨K, hK, rfl, hf, hbel⟩ := hrel
    have HF := Lib.hid hf
    have HB := Lib.hid hbel
    clear hf hbel
    by_cases hlt : K < l.length
    · obtain ⟨b, o, rfl, hb, hcell⟩ := lies_at HC.out hlt
      obtain ⟨ak, ck, ⟨c0, c1, c2, c3, c4⟩, hik⟩ := (hcell K hlt).keep HB.out (Nat.le_refl _) hb
      have HKK := Lib.hid (HK.out l[K] (List.getElem_mem hlt))
      have HY := Lib.hid (findN_yes (x := x) hlt)
      have HNO := Lib.hid (findN_no (x := x) hlt)
      obtain ⟨t, ht⟩ : ∃ t, t = l[K] := ⟨_, rfl⟩
      rw [← ht] at c0 c1 c2 c3 c4 hik HKK HY HNO
      have HIK := Lib.hid hik
      clear ht hcell hik
      have hi1 : (K : Int) < (l.length : Int) := by omega
      have hi0 : (0 : Int) ≤ (K : Int) := by omega
      obtain ⟨d, hd⟩ : ∃ d, decide (x ∈ t.kids) = d := ⟨_, rfl⟩
      have HD := Lib.hid hd
      clear hd
      go_wp2_with fail
      refine (has_kid t x g ak ck _ HKK.out ((HB.out.block g hglt).trans HG.out) (HIK.out.up HB.out.size)).mono ?_
      rintro e w2 ⟨he, b2⟩
      rw [HD.out] at he
      subst he
      have HB2 := Lib.hid (HB.out.trans (b2.mono HB.out.size))
      clear b2
      cases d
      · have HE := Lib.hid (show findN x (l.drop (K + 1)) (K + 1) = findN x l 0 by rw [← HF.out]; exact (HNO.out (of_decide_eq_false HD.out)).symm)
        go_wp2
        go_roundw
        case rel => exact ⟨K + 1, by omega, by go_num, HE.out, HB2.out⟩
        case measure => simp [intOf]; omega
      · have HE := Lib.hid (show findN x l 0 = (K : Int) by rw [← HF.out]; exact HY.out (of_decide_eq_true HD.out))
        go_wp2
        go_ret
        exact ⟨by rw [HE.out]; rfl, HB2.out⟩
    · obtain rfl : K = l.length := by omega
      have HE := Lib.hid (show findN x l 0 = -1 by rw [← HF.out]; exact findN_end)
      go_wp2
      go_ret
      exact ⟨by rw [HE.out]; rfl, HB.out⟩

theorem impl_parent (l : List Nd) (x : Int) (a : Option Addr) (cap : Nat) (w : World) (hn : l.length ≤ 1048576) (hk : ∀ t ∈ l, t.kids.length ≤ 1048576) (hc : Lies w.heap.size w a l) :
    Calls Try.prog 16 #[.slice a l.length cap, .int .i64 x] w fun e w' => e = .returned (.int .i64 (parentF x l)) ∧ Below w.heap.size w w' := by
  have HC := Lib.hid hc
  have HK := Lib.hid hk
  clear hc hk
  have hb0 := (Below.refl w.heap.size w).alloc (Nat.le_refl _) (.cells #[.int .i64 x] 3)
  have HB0 := Lib.hid hb0
  have HG := Lib.hid (heap_alloc_new w (.cells #[.int .i64 x] 3))
  clear hb0
  cases hs : shape l
  · have HE := Lib.hid (show parentF x l = -1 by unfold parentF; rw [hs]; rfl)
    have HS := Lib.hid hs
    clear hs
    go_enter Try.func16, Try.ntmps16
    go_wp2_with fail
    refine (impl_shape l a cap _ hn HK.out (HC.out.on HB0.out (Nat.le_refl _))).mono ?_
    rintro e w2 ⟨he, b2⟩
    rw [HS.out] at he
    subst he
    go_wp2
    go_ret
    exact ⟨by rw [HE.out]; rfl, HB0.out.trans (b2.mono HB0.out.size)⟩
  · have HE := Lib.hid (show parentF x l = findN x l 0 by unfold parentF; rw [if_pos hs])
    have HS := Lib.hid hs
    clear hs
    go_enter Try.func16, Try.ntmps16
    go_wp2_with fail
    refine (impl_shape l a cap _ hn HK.out (HC.out.on HB0.out (Nat.le_refl _))).mono ?_
    rintro e w2 ⟨he, b2⟩
    rw [HS.out] at he
    subst he
    have HB2 := Lib.hid (HB0.out.trans (b2.mono HB0.out.size))
    have HG2 := Lib.hid ((b2.block w.heap.size (by simp)).trans HG.out)
    clear b2
    go_wp2_with fail
    refine (lib_find l x w.heap.size a cap _ hn HK.out HG2.out (HC.out.on HB2.out (Nat.le_refl _))).mono ?_
    rintro e w3 ⟨rfl, b3⟩
    go_wp2
    go_ret
    exact ⟨by rw [HE.out]; rfl, HB2.out.trans (b3.mono HB2.out.size)⟩

def RelPs (B : Nat) (W : World) (x : Int) (l : List Nd) (i : Value) (wr : World) : Prop :=
  ∃ K : Nat, K ≤ l.length ∧ i = .int .i64 (K : Int) ∧ findN x (l.drop K) K = findN x l 0 ∧ Below B W wr
def RelPj (x : Int) (l : List Int) (j : Value) : Prop :=
  ∃ J : Nat, J ≤ l.length ∧ j = .int .i64 (J : Int) ∧ ¬ x ∈ l.take J

end Go.Proofs.Ytkijebbggcbemaa.nd
