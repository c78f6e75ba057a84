/-
  Nodes in memory: rows of integers ('Ints'), lists of nodes with their kids' rows ('Lies'); laws.szNodeS and what it calls: contracts.
-/
import Derived.Test.YtckeepjfbpphaaaGreatDoorRows
import Derived.Test.YtckeepjfbpphaaaGreatDoorBase
import Derived.WalkKit
import Derived.ProofKit
import Derived.OpenShut
import Derived.ShutString
import Derived.ChangeOld
import Derived.Below
import Derived.WalkSpells
import Derived.WalkLawsBesides
import Derived.BigQuiet
import Derived.RegionTactic
import Derived.Deep.QuietTactic
import Derived.Deep.MidRow
import Derived.Deep.RegionHeld3
namespace Go.Proofs.YtckeepjfbpphaaaGreatDoor.nd
open Go.ChangeShapes Go.WideShapes Go.ChangeAt Go.RowKit
set_option linter.unusedVariables false

structure Nd where
  k : Int
  op : Int
  s : ByteArray
  t : ByteArray
  kids : List Int
instance : Inhabited Nd := ⟨⟨0, 0, ⟨#[]⟩, ⟨#[]⟩, []⟩⟩
instance : DecidableEq Nd := fun x y =>
  if h : x.k = y.k ∧ x.op = y.op ∧ x.s = y.s ∧ x.t = y.t ∧ x.kids = y.kids then isTrue (by cases x; cases y; simp_all) else isFalse (fun e => h (by subst e; exact ⟨rfl, rfl, rfl, rfl, rfl⟩))

/-- A row of integers, below block B. -/
def Ints (B : Nat) (w : World) (a : Option Addr) (l : List Int) : Prop :=
  l = [] ∨ ∃ b o, a = some ⟨b, o, none⟩ ∧ b < B ∧ ∀ i (h : i < l.length), w.cell? ⟨b, o + i, none⟩ = some (.int .i64 l[i])
theorem Ints.keep {B B' : Nat} {w w' : World} {a : Option Addr} {l : List Int} (h : Ints B w a l) (hb : Below B' w w') (hB : B ≤ B') : Ints B w' a l := by
  rcases h with h | ⟨b, o, rfl, hlt, hc⟩
  · exact .inl h
  · exact .inr ⟨b, o, rfl, hlt, fun i hi => (hb.cell (p := ⟨b, o + i, none⟩) (Nat.lt_of_lt_of_le hlt hB)).trans (hc i hi)⟩
theorem Ints.up {B B' : Nat} {w : World} {a : Option Addr} {l : List Int} (h : Ints B w a l) (hB : B ≤ B') : Ints B' w a l := by
  rcases h with h | ⟨b, o, rfl, hlt, hc⟩
  · exact .inl h
  · exact .inr ⟨b, o, rfl, by omega, hc⟩
theorem ints_at {B : Nat} {w : World} {a : Option Addr} {l : List Int} {I : Nat} (h : Ints B w a l) (hI : I < l.length) : ∃ b o, a = some ⟨b, o, none⟩ ∧ b < B ∧ ∀ i (h : i < l.length), w.cell? ⟨b, o + i, none⟩ = some (.int .i64 l[i]) := by
  rcases h with h | h
  · rw [h] at hI; simp at hI
  · exact h

/-- The five cells of a node. -/
def Five (w : World) (b o : Nat) (n : Nd) (a : Option Addr) (cap : Nat) : Prop :=
  w.cell? ⟨b, o, none⟩ = some (.int .i64 n.k) ∧ w.cell? ⟨b, o + 1, none⟩ = some (.int .i64 n.op) ∧ w.cell? ⟨b, o + 2, none⟩ = some (.string n.s) ∧ w.cell? ⟨b, o + 3, none⟩ = some (.string n.t) ∧ w.cell? ⟨b, o + 4, none⟩ = some (.slice a n.kids.length cap)
theorem Five.keep {B b o : Nat} {w w' : World} {n : Nd} {a : Option Addr} {cap : Nat} (h : Five w b o n a cap) (hb : Below B w w') (hB : b < B) : Five w' b o n a cap :=
  ⟨(hb.cell (p := ⟨b, o, none⟩) hB).trans h.1, (hb.cell (p := ⟨b, o + 1, none⟩) hB).trans h.2.1, (hb.cell (p := ⟨b, o + 2, none⟩) hB).trans h.2.2.1, (hb.cell (p := ⟨b, o + 3, none⟩) hB).trans h.2.2.2.1, (hb.cell (p := ⟨b, o + 4, none⟩) hB).trans h.2.2.2.2⟩
def At (B : Nat) (w : World) (b o : Nat) (n : Nd) : Prop := ∃ a cap, Five w b o n a cap ∧ Ints B w a n.kids
theorem At.keep {B B' b o : Nat} {w w' : World} {n : Nd} (h : At B w b o n) (hb : Below B' w w') (hB : B ≤ B') (hlt : b < B') : At B w' b o n := by
  obtain ⟨a, cap, h5, hi⟩ := h
  exact ⟨a, cap, h5.keep hb hlt, hi.keep hb hB⟩
theorem At.up {B B' b o : Nat} {w : World} {n : Nd} (h : At B w b o n) (hB : B ≤ B') : At B' w b o n := by
  obtain ⟨a, cap, h5, hi⟩ := h
  exact ⟨a, cap, h5, hi.up hB⟩
/-- The nodes l lie in w, below block B, at a slice's address. -/
def Lies (B : Nat) (w : World) (a : Option Addr) (l : List Nd) : Prop :=
  l = [] ∨ ∃ b o, a = some ⟨b, o, none⟩ ∧ b < B ∧ ∀ i (h : i < l.length), At B w b (o + i * 5) l[i]
theorem Lies.keep {B B' : Nat} {w w' : World} {a : Option Addr} {l : List Nd} (h : Lies B w a l) (hb : Below B' w w') (hB : B ≤ B') : Lies B w' a l := by
  rcases h with h | ⟨b, o, rfl, hlt, hc⟩
  · exact .inl h
  · exact .inr ⟨b, o, rfl, hlt, fun i hi => (hc i hi).keep hb hB (Nat.lt_of_lt_of_le hlt hB)⟩
theorem Lies.up {B B' : Nat} {w : World} {a : Option Addr} {l : List Nd} (h : Lies B w a l) (hB : B ≤ B') : Lies B' w a l := by
  rcases h with h | ⟨b, o, rfl, hlt, hc⟩
  · exact .inl h
  · exact .inr ⟨b, o, rfl, by omega, fun i hi => (hc i hi).up hB⟩
theorem Lies.on {B : Nat} {w w' : World} {a : Option Addr} {l : List Nd} (h : Lies B w a l) (hb : Below B w w') (hB : B ≤ w.heap.size) : Lies w'.heap.size w' a l :=
  (h.keep hb (Nat.le_refl _)).up (Nat.le_trans hB hb.size)
theorem lies_at {B : Nat} {w : World} {a : Option Addr} {l : List Nd} {I : Nat} (h : Lies B w a l) (hI : I < l.length) : ∃ b o, a = some ⟨b, o, none⟩ ∧ b < B ∧ ∀ i (h : i < l.length), At B w b (o + i * 5) l[i] := by
  rcases h with h | h
  · rw [h] at hI; simp at hI
  · exact h

/-! ### Sizes -/
def Nd.sz (n : Nd) : Nat := n.s.size + n.t.size + n.kids.length
def tot : List Nd → Nat
  | [] => 0
  | t :: l => t.sz + tot l
theorem tot_append (l m : List Nd) : tot (l ++ m) = tot l + tot m := by
  induction l with
  | nil => simp [tot]
  | cons t l ih => simp only [List.cons_append, tot, ih]; omega
theorem tot_step {l : List Nd} {I : Nat} (h : I < l.length) : tot (l.take (I + 1)) = tot (l.take I) + l[I].sz := by
  rw [List.take_succ_eq_append_getElem h, tot_append]
  simp [tot]
theorem tot_le (l : List Nd) (I : Nat) : tot (l.take I) ≤ tot l := by
  have := tot_append (l.take I) (l.drop I)
  rw [List.take_append_drop] at this
  omega
theorem sz_le {l : List Nd} {I : Nat} (h : I < l.length) : l[I].sz ≤ tot l := by
  have := tot_step h
  have := tot_le l (I + 1)
  omega
/-- No field is longer than a machine's memory. -/
def Nd.fit (n : Nd) : Prop := n.s.size ≤ maxLen ∧ n.t.size ≤ maxLen ∧ n.kids.length ≤ maxLen

/-- What is left of a budget. -/
def leftI (n : Nat) (x : Int) : Int := if (n : Int) ≤ x then x - n else -1
theorem left_yes {n : Nat} {x : Int} (h : (n : Int) ≤ x) : leftI n x = x - n := if_pos h
theorem left_no {n : Nat} {x : Int} (h : ¬ (n : Int) ≤ x) : leftI n x = -1 := if_neg h

theorem size_ints (a : Option Addr) (n cap : Nat) (x : Int) (w : World) (h0 : 0 ≤ x) (hx : x ≤ 1048576) (hn : n ≤ maxLen) :
    Calls Tryz.prog 21 #[.slice a n cap, .int .i64 x] w fun e w' => e = .returned (.int .i64 (leftI n x)) ∧ w = w' := by
  unfold maxLen at hn
  by_cases h : (n : Int) ≤ x
  · have HE := Lib.hid (left_yes h)
    have h1 : ¬ x - (n : Int) < 0 := by omega
    clear h
    go_enter Tryz.func21, Tryz.ntmps21
    go_wp2
    go_ret
    exact ⟨by rw [HE.out]; rfl, rfl⟩
  · have HE := Lib.hid (left_no h)
    have h1 : x - (n : Int) < 0 := by omega
    clear h
    go_enter Tryz.func21, Tryz.ntmps21
    go_wp2
    go_ret
    exact ⟨by rw [HE.out]; rfl, rfl⟩

theorem size_node (k op : Int) (s t : ByteArray) (a : Option Addr) (n cap : Nat) (x : Int) (w : World) (h0 : 0 ≤ x) (hx : x ≤ 1048576) (hs : s.size ≤ maxLen) (ht : t.size ≤ maxLen) (hn : n ≤ maxLen) :
    Calls Tryz.prog 11 #[.agg #[.int .i64 k, .int .i64 op, .string s, .string t, .slice a n cap], .int .i64 x] w fun e w' => e = .returned (.int .i64 (leftI (s.size + t.size + n) x)) ∧ Below w.heap.size w w' := by
  have HN := Lib.hid hn
  unfold maxLen at hs ht hn
  by_cases h1 : (s.size : Int) ≤ x
  · have h1' : ¬ x - (s.size : Int) < 0 := by omega
    by_cases h2 : (t.size : Int) ≤ x - s.size
    · have h2' : ¬ x - (s.size : Int) - (t.size : Int) < 0 := by omega
      have h20 : 0 ≤ x - (s.size : Int) - (t.size : Int) := by omega
      have h21 : x - (s.size : Int) - (t.size : Int) ≤ 1048576 := by omega
      by_cases h3 : (n : Int) ≤ x - s.size - t.size
      · have h3' : ¬ x - (s.size : Int) - (t.size : Int) - n < 0 := by omega
        have HE := Lib.hid (left_yes h3)
        have HF := Lib.hid (show leftI (s.size + t.size + n) x = x - s.size - t.size - n by rw [left_yes (by omega)]; omega)
        clear h1 h2 h3
        go_enter Tryz.func11, Tryz.ntmps11
        go_wp2_with fail
        refine (size_ints a n cap _ _ h20 h21 HN.out).mono ?_
        rintro e w2 ⟨he, rfl⟩
        rw [HE.out] at he
        subst he
        go_wp2
        go_ret
        exact ⟨by rw [HF.out]; rfl, (Below.refl _ _).alloc (Nat.le_refl _) _⟩
      · have HE := Lib.hid (left_no h3)
        have HF := Lib.hid (show leftI (s.size + t.size + n) x = -1 from left_no (by omega))
        clear h1 h2 h3
        go_enter Tryz.func11, Tryz.ntmps11
        go_wp2_with fail
        refine (size_ints a n cap _ _ h20 h21 HN.out).mono ?_
        rintro e w2 ⟨he, rfl⟩
        rw [HE.out] at he
        subst he
        go_wp2
        go_ret
        exact ⟨by rw [HF.out]; rfl, (Below.refl _ _).alloc (Nat.le_refl _) _⟩
    · have h2' : x - (s.size : Int) - (t.size : Int) < 0 := by omega
      have HF := Lib.hid (show leftI (s.size + t.size + n) x = -1 from left_no (by omega))
      clear h1 h2
      go_enter Tryz.func11, Tryz.ntmps11
      go_wp2
      go_ret
      exact ⟨by rw [HF.out]; rfl, (Below.refl _ _).alloc (Nat.le_refl _) _⟩
  · have h1' : x - (s.size : Int) < 0 := by omega
    have HF := Lib.hid (show leftI (s.size + t.size + n) x = -1 from left_no (by omega))
    clear h1
    go_enter Tryz.func11, Tryz.ntmps11
    go_wp2
    go_ret
    exact ⟨by rw [HF.out]; rfl, (Below.refl _ _).alloc (Nat.le_refl _) _⟩

def RelSz (B : Nat) (W : World) (l : List Nd) (x0 : Int) (m i : Value) (wr : World) : Prop :=
  ∃ (I : Nat) (X : Int), I ≤ l.length ∧ i = .int .i64 (I : Int) ∧ m = .int .i64 X ∧ 0 ≤ X ∧ x0 = X + l.length + tot (l.take I) ∧ Below B W wr
def sz (l : List Nd) (x : Int) : Int := leftI (l.length + tot l) x

set_option maxHeartbeats 800000 in
theorem size_nodes (l : List Nd) (a : Option Addr) (cap : Nat) (x : Int) (w : World) (hx0 : 0 ≤ x) (hx : x ≤ 1048576) (hn : l.length ≤ maxLen) (hc : Lies w.heap.size w a l) (hm : ∀ t ∈ l, t.fit) :
    Calls Tryz.prog 4 #[.slice a l.length cap, .int .i64 x] w fun e w' => e = .returned (.int .i64 (sz l x)) ∧ Below w.heap.size w w' := by
  have HC := Lib.hid hc
  have HM := Lib.hid hm
  unfold maxLen at hn
  clear hc hm
  by_cases h0 : x < l.length
  · have HE := Lib.hid (show sz l x = -1 from left_no (by omega))
    have h1 : (x - (l.length : Int)) < 0 := by omega
    clear h0
    go_enter Tryz.func4, Tryz.ntmps4
    go_wp2
    go_ret
    exact ⟨by rw [HE.out]; rfl, Below.refl _ _⟩
  · have h1 : ¬ (x - (l.length : Int)) < 0 := by omega
    clear h0
    go_enter Tryz.func4, Tryz.ntmps4
    go_wp2
    go_loopw [1, 5] (fun m i wr => RelSz w.heap.size w l x m i wr) (fun _ i _ => l.length - (intOf i).toNat)
    case atStart => exact ⟨0, x - l.length, by omega, rfl, rfl, by omega, by simp [tot], Below.refl _ _⟩
    case round =>
      obtain ⟨I, X, hI, rfl, rfl, hX0, hleft, hbel⟩ := hrel
      have HB := Lib.hid hbel
      have HL := Lib.hid hleft
      have hX : X ≤ 1048576 := by omega
      clear hbel hleft
      by_cases hlt : I < l.length
      · obtain ⟨b, o, rfl, hb, hcell⟩ := lies_at HC.out hlt
        obtain ⟨ak, ck, h5, _⟩ := (hcell I hlt).keep HB.out (Nat.le_refl _) hb
        obtain ⟨c0, c1, c2, c3, c4⟩ := h5
        have HTS := Lib.hid (HM.out l[I] (List.getElem_mem hlt))
        have HT := Lib.hid (tot_step hlt)
        have HTL := Lib.hid (tot_le l (I + 1))
        obtain ⟨t, ht⟩ : ∃ t, t = l[I] := ⟨_, rfl⟩
        rw [← ht] at c0 c1 c2 c3 c4 HTS HT
        clear ht hcell
        have hi1 : (I : Int) < (l.length : Int) := by omega
        by_cases hfit : (t.sz : Int) ≤ X
        · obtain ⟨Y, hY⟩ : ∃ Y : Int, X = Y + t.sz := ⟨X - t.sz, by omega⟩
          have HE := Lib.hid (show leftI (t.s.size + t.t.size + t.kids.length) X = Y by rw [left_yes (by unfold Nd.sz at hfit; exact hfit), hY]; unfold Nd.sz; omega)
          have HN := Lib.hid (show x = Y + l.length + tot (l.take (I + 1)) by have := HT.out; have := HL.out; omega)
          have hY0 : 0 ≤ Y := by omega
          have HY0 := Lib.hid hY0
          clear hfit hY hY0
          go_wp2_with fail
          refine (size_node t.k t.op t.s t.t ak t.kids.length ck X _ hX0 hX HTS.out.1 HTS.out.2.1 HTS.out.2.2).mono ?_
          rintro e w2 ⟨he, b2⟩
          rw [HE.out] at he
          subst he
          have HB2 := Lib.hid (HB.out.trans (b2.mono HB.out.size))
          clear b2
          have hm0 : ¬ Y < 0 := by have := HY0.out; omega
          go_wp2
          go_roundw
          case rel => exact ⟨I + 1, Y, by omega, by go_num, rfl, HY0.out, HN.out, HB2.out⟩
          case measure => simp [intOf]; omega
        · have HE := Lib.hid (show leftI (t.s.size + t.t.size + t.kids.length) X = -1 from left_no (by unfold Nd.sz at hfit; exact hfit))
          have HN := Lib.hid (show sz l x = -1 from left_no (by have := HT.out; have := HTL.out; have := HL.out; omega))
          clear hfit
          go_wp2_with fail
          refine (size_node t.k t.op t.s t.t ak t.kids.length ck X _ hX0 hX HTS.out.1 HTS.out.2.1 HTS.out.2.2).mono ?_
          rintro e w2 ⟨he, b2⟩
          rw [HE.out] at he
          subst he
          have HB2 := Lib.hid (HB.out.trans (b2.mono HB.out.size))
          clear b2
          go_wp2
          go_ret
          exact ⟨by rw [HN.out]; rfl, HB2.out⟩
      · obtain rfl : I = l.length := by omega
        have HN := Lib.hid (show sz l x = X by have := HL.out; rw [List.take_length] at this; unfold sz; rw [left_yes (by omega)]; omega)
        go_wp2
        go_ret
        exact ⟨by rw [HN.out]; rfl, HB.out⟩
end Go.Proofs.YtckeepjfbpphaaaGreatDoor.nd
