/-
  Tokens in memory: a slice of tokens as a list ('Lies'); laws.szTokenS, toTokenS, eqTokenS: contracts.
-/
import Derived.Test.YtckeepjfbpphaaaRows
import Derived.Test.YtckeepjfbpphaaaBase
import Derived.WalkKit
import Derived.ProofKit
import Derived.OpenShut
import Derived.ShutString
import Derived.ChangeOld
import Derived.Below
import Derived.WalkSpells
import Derived.WalkLawsBesides
import Derived.BigQuiet
import Derived.RegionTactic
import Derived.Deep.QuietTactic
import Derived.Deep.MidRow
import Derived.Deep.RegionHeld3
namespace Go.Proofs.Ytckeepjfbpphaaa.tk
open Go.ChangeShapes Go.WideShapes Go.ChangeAt Go.RowKit
set_option linter.unusedVariables false

structure Tk where
  k : Int
  s : ByteArray
  a : Int
def Tk.val (t : Tk) : Value := .agg #[.int .i64 t.k, .string t.s, .int .i64 t.a]
instance : Inhabited Tk := ⟨⟨0, ⟨#[]⟩, 0⟩⟩
/-- Three cells of a row. -/
def At (w : World) (b o : Nat) (t : Tk) : Prop := w.cell? ⟨b, o, none⟩ = some (.int .i64 t.k) ∧ w.cell? ⟨b, o + 1, none⟩ = some (.string t.s) ∧ w.cell? ⟨b, o + 2, none⟩ = some (.int .i64 t.a)
/-- The tokens l lie in w, below block B, at a slice's address. -/
def Lies (B : Nat) (w : World) (a : Option Addr) (l : List Tk) : Prop :=
  l = [] ∨ ∃ b o, a = some ⟨b, o, none⟩ ∧ b < B ∧ ∀ i (h : i < l.length), At w b (o + i * 3) l[i]

theorem At.keep {B b o : Nat} {w w' : World} {t : Tk} (h : At w b o t) (hb : Below B w w') (hB : b < B) : At w' b o t :=
  ⟨(hb.cell (p := ⟨b, o, none⟩) hB).trans h.1, (hb.cell (p := ⟨b, o + 1, none⟩) hB).trans h.2.1, (hb.cell (p := ⟨b, o + 2, none⟩) hB).trans h.2.2⟩
theorem Lies.keep {B B' : Nat} {w w' : World} {a : Option Addr} {l : List Tk} (h : Lies B w a l) (hb : Below B' w w') (hB : B ≤ B') : Lies B w' a l := by
  rcases h with h | ⟨b, o, rfl, hlt, hc⟩
  · exact .inl h
  · exact .inr ⟨b, o, rfl, hlt, fun i hi => (hc i hi).keep hb (Nat.lt_of_lt_of_le hlt hB)⟩

theorem Lies.up {B B' : Nat} {w : World} {a : Option Addr} {l : List Tk} (h : Lies B w a l) (hB : B ≤ B') : Lies B' w a l := by
  rcases h with h | ⟨b, o, rfl, hlt, hc⟩
  · exact .inl h
  · exact .inr ⟨b, o, rfl, by omega, hc⟩

/-- All the texts' bytes. -/
def tot : List Tk → Nat
  | [] => 0
  | t :: l => t.s.size + tot l
theorem tot_append (l m : List Tk) : tot (l ++ m) = tot l + tot m := by
  induction l with
  | nil => simp [tot]
  | cons t l ih => simp only [List.cons_append, tot, ih]; omega
theorem tot_step {l : List Tk} {I : Nat} (h : I < l.length) : tot (l.take (I + 1)) = tot (l.take I) + l[I].s.size := by
  rw [List.take_succ_eq_append_getElem h, tot_append]
  simp [tot]
theorem tot_le (l : List Tk) (I : Nat) : tot (l.take I) ≤ tot l := by
  have := tot_append (l.take I) (l.drop I)
  rw [List.take_append_drop] at this
  omega

/-- What is left of a budget. -/
def left1 (n left : Nat) : Int := if n ≤ left then (left : Int) - n else -1
theorem size_tok (k a : Int) (s : ByteArray) (left : Nat) (w : World) (hl : left ≤ 1048576) (hm : s.size ≤ maxLen) :
    Calls Try.prog 20 #[.agg #[.int .i64 k, .string s, .int .i64 a], .int .i64 (left : Int)] w fun e w' => e = .returned (.int .i64 (left1 s.size left)) ∧ Below w.heap.size w w' := by
  unfold maxLen at hm
  by_cases h : s.size ≤ left
  · have h1 : ¬ ((left : Int) - (s.size : Int)) < 0 := by omega
    have HE := Lib.hid (show left1 s.size left = (left : Int) - s.size from if_pos h)
    clear h
    go_enter Try.func20, Try.ntmps20
    go_wp2
    go_ret
    exact ⟨by rw [HE.out]; rfl, (Below.refl _ _).alloc (Nat.le_refl _) _⟩
  · have h1 : ((left : Int) - (s.size : Int)) < 0 := by omega
    have HE := Lib.hid (show left1 s.size left = -1 from if_neg h)
    clear h
    go_enter Try.func20, Try.ntmps20
    go_wp2
    go_ret
    exact ⟨by rw [HE.out]; rfl, (Below.refl _ _).alloc (Nat.le_refl _) _⟩

def RelSz (B : Nat) (W : World) (l : List Tk) (left : Nat) (m i : Value) (wr : World) : Prop :=
  ∃ I L : Nat, I ≤ l.length ∧ i = .int .i64 (I : Int) ∧ m = .int .i64 (L : Int) ∧ left = L + l.length + tot (l.take I) ∧ Below B W wr

def sz (l : List Tk) (left : Nat) : Int := left1 (l.length + tot l) left

theorem lies_at {B : Nat} {w : World} {a : Option Addr} {l : List Tk} {I : Nat} (h : Lies B w a l) (hI : I < l.length) : ∃ b o, a = some ⟨b, o, none⟩ ∧ b < B ∧ ∀ i (h : i < l.length), At w b (o + i * 3) l[i] := by
  rcases h with h | h
  · rw [h] at hI; simp at hI
  · exact h

set_option maxHeartbeats 800000 in
theorem size_toks (l : List Tk) (a : Option Addr) (cap left : Nat) (w : World) (hl : left ≤ 1048576) (hn : l.length ≤ maxLen) (hc : Lies w.heap.size w a l) (hm : ∀ t ∈ l, t.s.size ≤ maxLen) :
    Calls Try.prog 5 #[.slice a l.length cap, .int .i64 (left : Int)] w fun e w' => e = .returned (.int .i64 (sz l left)) ∧ Below w.heap.size w w' := by
  have HC := Lib.hid hc
  have HM := Lib.hid hm
  unfold maxLen at hn
  clear hc hm
  by_cases h0 : left < l.length
  · have HE := Lib.hid (show sz l left = -1 by unfold sz left1; rw [if_neg (by omega)])
    have h1 : ((left : Int) - (l.length : Int)) < 0 := by omega
    clear h0
    go_enter Try.func5, Try.ntmps5
    go_wp2
    go_ret
    exact ⟨by rw [HE.out]; rfl, Below.refl _ _⟩
  · have h1 : ¬ ((left : Int) - (l.length : Int)) < 0 := by omega
    have h0' : l.length ≤ left := by omega
    clear h0
    go_enter Try.func5, Try.ntmps5
    go_wp2
    go_loopw [1, 5] (fun m i wr => RelSz w.heap.size w l left m i wr) (fun _ i _ => l.length - (intOf i).toNat)
    case atStart => exact ⟨0, left - l.length, by omega, rfl, by go_num, by simp [tot]; omega, Below.refl _ _⟩
    case round =>
      obtain ⟨I, L, hI, rfl, rfl, hleft, hbel⟩ := hrel
      have HB := Lib.hid hbel
      have HL := Lib.hid hleft
      have hL : L ≤ 1048576 := by omega
      clear hbel hleft
      by_cases hlt : I < l.length
      · obtain ⟨b, o, rfl, hb, hcell⟩ := lies_at HC.out hlt
        have hat := (hcell I hlt).keep HB.out hb
        obtain ⟨c0, c1, c2⟩ := hat
        have hts := HM.out l[I] (List.getElem_mem hlt)
        have HT := Lib.hid (tot_step hlt)
        have HTL := Lib.hid (tot_le l (I + 1))
        obtain ⟨t, ht⟩ : ∃ t, t = l[I] := ⟨_, rfl⟩
        rw [← ht] at c0 c1 c2 hts HT
        clear ht hcell
        have hi1 : (I : Int) < (l.length : Int) := by omega
        by_cases hfit : t.s.size ≤ L
        · obtain ⟨M, hM⟩ : ∃ M : Nat, L = M + t.s.size := ⟨L - t.s.size, by omega⟩
          have HE := Lib.hid (show left1 t.s.size L = (M : Int) by unfold left1; rw [if_pos hfit]; omega)
          have HN := Lib.hid (show left = M + l.length + tot (l.take (I + 1)) by rw [HT.out, HL.out]; omega)
          clear hfit hM
          go_wp2_with fail
          refine (size_tok t.k t.a t.s L _ hL hts).mono ?_
          rintro e w2 ⟨he, b2⟩
          rw [HE.out] at he
          subst he
          have HB2 := Lib.hid (HB.out.trans (b2.mono HB.out.size))
          clear b2
          have hm0 : ¬ (M : Int) < 0 := by omega
          go_wp2
          go_roundw
          case rel => exact ⟨I + 1, M, by omega, by go_num, rfl, HN.out, HB2.out⟩
          case measure => simp [intOf]; omega
        · have HE := Lib.hid (show left1 t.s.size L = -1 by unfold left1; rw [if_neg hfit])
          have HN := Lib.hid (show sz l left = -1 by unfold sz left1; rw [if_neg (by rw [HT.out] at HTL; have := HTL.out; have := HL.out; omega)])
          clear hfit
          go_wp2_with fail
          refine (size_tok t.k t.a t.s L _ hL hts).mono ?_
          rintro e w2 ⟨he, b2⟩
          rw [HE.out] at he
          subst he
          have HB2 := Lib.hid (HB.out.trans (b2.mono HB.out.size))
          clear b2
          go_wp2
          go_ret
          exact ⟨by rw [HN.out]; rfl, HB2.out⟩
      · obtain rfl : I = l.length := by omega
        have HN := Lib.hid (show sz l left = (L : Int) by have := HL.out; rw [List.take_length] at this; unfold sz left1; rw [if_pos (by omega)]; omega)
        go_wp2
        go_ret
        exact ⟨by rw [HN.out]; rfl, HB.out⟩

theorem to_token (k a : Int) (s : ByteArray) (w : World) :
    Calls Try.prog 21 #[.agg #[.int .i64 k, .string s, .int .i64 a]] w fun e w' => e = .returned (.agg #[.int .i64 k, .string s, .int .i64 a]) ∧ Below w.heap.size w w' := by
  go_enter Try.func21, Try.ntmps21
  go_wp2
  refine bodyPost_ret (v := .agg #[.int .i64 k, .string s, .int .i64 a]) (by simp [results, Try.results21, go_sem]) rfl ⟨rfl, ?_⟩
  exact (((Below.refl _ _).alloc (Nat.le_refl _) _).alloc (by simp) _).alloc (by simp; omega) _

/-- A block of n tokens, none frozen, the first of which are l. -/
def Blk (w : World) (g : Nat) (n : Nat) (l : List Tk) : Prop :=
  ∃ c : Array Value, w.heap[g]? = some (.cells c 44 (0, 0)) ∧ c.size = n * 3 ∧ l.length ≤ n ∧ ∀ i (h : i < l.length), c[i * 3]? = some (.int .i64 l[i].k) ∧ c[i * 3 + 1]? = some (.string l[i].s) ∧ c[i * 3 + 2]? = some (.int .i64 l[i].a)
theorem Blk.lt {w : World} {g n : Nat} {l : List Tk} (h : Blk w g n l) : g < w.heap.size := by
  obtain ⟨c, hc, -⟩ := h
  rcases Nat.lt_or_ge g w.heap.size with h' | h'
  · exact h'
  · rw [Array.getElem?_eq_none h'] at hc; cases hc
theorem Blk.at {w : World} {g n : Nat} {l : List Tk} (h : Blk w g n l) (i : Nat) (hi : i < l.length) : At w g (i * 3) l[i] := by
  obtain ⟨c, hc, hs, hl, hx⟩ := h
  obtain ⟨x0, x1, x2⟩ := hx i hi
  exact ⟨by rw [cell_of_row w g _ _ _ _ hc]; exact x0, by rw [cell_of_row w g _ _ _ _ hc]; exact x1, by rw [cell_of_row w g _ _ _ _ hc]; exact x2⟩
theorem Blk.lies {w : World} {g n : Nat} {l : List Tk} (h : Blk w g n l) : Lies w.heap.size w (some ⟨g, 0, none⟩) l :=
  .inr ⟨g, 0, rfl, h.lt, fun i hi => by rw [Nat.zero_add]; exact h.at i hi⟩
theorem Blk.of_block {w w' : World} {g n : Nat} {l : List Tk} (h : Blk w g n l) (e : w'.heap[g]? = w.heap[g]?) : Blk w' g n l := by
  obtain ⟨c, hc, r⟩ := h
  exact ⟨c, e.trans hc, r⟩
theorem Blk.keep {B : Nat} {w w' : World} {g n : Nat} {l : List Tk} (h : Blk w g n l) (hb : Below B w w') (hg : g < B) : Blk w' g n l := h.of_block (hb.block g hg)
theorem Blk.frozen {w : World} {g n : Nat} {l : List Tk} (h : Blk w g n l) (j : Nat) : w.frozen? ⟨g, j, none⟩ = false := by
  obtain ⟨c, hc, -⟩ := h
  exact frozen_of_row w g j _ _ hc
theorem Blk.some {w : World} {g n : Nat} {l : List Tk} (h : Blk w g n l) (j : Nat) (hj : j < n * 3) : ∃ v, w.cell? ⟨g, j, none⟩ = some v := by
  obtain ⟨c, hc, hs, -⟩ := h
  rw [cell_of_row w g j _ _ _ hc]
  exact ⟨c[j]'(by omega), Array.getElem?_eq_getElem (by omega)⟩

/-- A token put behind the first ones. -/
theorem Blk.put {w : World} {g n : Nat} {l : List Tk} (h : Blk w g n l) (t : Tk) (hl : l.length < n) :
    Blk (((w.setCell ⟨g, l.length * 3, none⟩ (.int .i64 t.k)).setCell ⟨g, l.length * 3 + 1, none⟩ (.string t.s)).setCell ⟨g, l.length * 3 + 2, none⟩ (.int .i64 t.a)) g n (l ++ [t]) := by
  obtain ⟨c, hc, hs, _, hx⟩ := h
  refine ⟨((c.setIfInBounds (l.length * 3) (.int .i64 t.k)).setIfInBounds (l.length * 3 + 1) (.string t.s)).setIfInBounds (l.length * 3 + 2) (.int .i64 t.a), ?_, by simpa using hs, by simp; omega, ?_⟩
  · exact heap_setCell_same _ g _ _ _ _ (heap_setCell_same _ g _ _ _ _ (heap_setCell_same _ g _ _ _ _ hc))
  · intro i hi
    simp at hi
    by_cases he : i < l.length
    · have hne : ∀ (p q : Nat), p < 3 → q < 3 → l.length * 3 + p ≠ i * 3 + q := by omega
      obtain ⟨x0, x1, x2⟩ := hx i he
      rw [List.getElem_append_left he]
      simp only [Array.getElem?_setIfInBounds]
      refine ⟨?_, ?_, ?_⟩
      · rw [if_neg (by omega), if_neg (by omega), if_neg (by omega)]; exact x0
      · rw [if_neg (by omega), if_neg (by omega), if_neg (by omega)]; exact x1
      · rw [if_neg (by omega), if_neg (by omega), if_neg (by omega)]; exact x2
    · obtain rfl : i = l.length := by omega
      rw [List.getElem_append_right (Nat.le_refl _)]
      simp only [Array.getElem?_setIfInBounds, Array.size_setIfInBounds, Nat.sub_self, List.getElem_cons_zero]
      refine ⟨?_, ?_, ?_⟩
      · rw [if_neg (by omega), if_neg (by omega), if_pos trivial, if_pos (by omega)]
      · rw [if_neg (by omega), if_pos trivial, if_pos (by omega)]
      · rw [if_pos trivial, if_pos (by omega)]

theorem Try.infoTok : (Try.prog.info? 44).map (fun i => (i.zero, i.size, i.bytes)) = some (some (.agg #[.int .i64 0, .string ⟨#[]⟩, .int .i64 0]), 3, 32) := by kernel_rfl
/-- 'make([]Token, n)'. -/
theorem make_toks (n : Nat) (hn : n ≤ 1048576) (w : World) :
    (Instr.makeSlice 26 (.int .i64 (n : Int)) (.int .i64 (n : Int))).run Try.prog w = .ok (.slice (some ⟨w.heap.size, 0, none⟩) n n) (w.alloc (.cells (madeCells #[.int .i64 0, .string ⟨#[]⟩, .int .i64 0] (n * 3)) 44)) := by
  obtain ⟨i, hi, hz⟩ := Option.map_eq_some_iff.1 Try.infoTok
  simp only [Prod.mk.injEq] at hz
  obtain ⟨hz0, hs, hb⟩ := hz
  have := run_make (P := Try.prog) w 26 44 i _ Try.underlying26 hi hz0 .i64 .i64 n n (by omega) (Int.le_refl _) (by rw [hb]; omega) (by omega)
  rw [hs] at this
  exact this
theorem Blk.made (w : World) (n : Nat) : Blk (w.alloc (.cells (madeCells #[.int .i64 0, .string ⟨#[]⟩, .int .i64 0] (n * 3)) 44)) w.heap.size n [] :=
  ⟨_, heap_alloc_new w _, by simp [madeCells], by simp, fun i hi => by simp at hi⟩

def RelTo (B : Nat) (W : World) (l : List Tk) (i : Value) (wr : World) : Prop :=
  ∃ I : Nat, I ≤ l.length ∧ i = .int .i64 (I : Int) ∧ Below B W wr ∧ Blk wr B l.length (l.take I)

set_option maxHeartbeats 800000 in
theorem to_toks (l : List Tk) (a : Option Addr) (cap : Nat) (w : World) (hn : l.length ≤ 1048576) (hc : Lies w.heap.size w a l) :
    Calls Try.prog 7 #[.slice a l.length cap] w fun e w' => e = .returned (.slice (some ⟨w.heap.size, 0, none⟩) l.length l.length) ∧ Below w.heap.size w w' ∧ Blk w' w.heap.size l.length l := by
  have HC := Lib.hid hc
  clear hc
  have hmk := make_toks l.length hn
  have HB0 := Lib.hid (Blk.made w l.length)
  go_enter Try.func7, Try.ntmps7
  go_wp2
  go_loopw [4] (fun i wr => RelTo w.heap.size w l i wr) (fun i _ => l.length - (intOf i).toNat)
  case atStart => exact ⟨0, by omega, rfl, (Below.refl _ _).alloc (Nat.le_refl _) _, HB0.out⟩
  case round =>
    obtain ⟨I, hI, rfl, hbel, hblk⟩ := hrel
    have HB := Lib.hid hbel
    have HK := Lib.hid hblk
    clear hbel hblk
    by_cases hlt : I < l.length
    · obtain ⟨b, o, rfl, hb, hcell⟩ := lies_at HC.out hlt
      have hat := (hcell I hlt).keep HB.out hb
      obtain ⟨c0, c1, c2⟩ := hat
      obtain ⟨t, ht⟩ : ∃ t, t = l[I] := ⟨_, rfl⟩
      have HT := Lib.hid ht
      rw [← ht] at c0 c1 c2
      clear ht hcell
      have hi1 : (I : Int) < (l.length : Int) := by omega
      go_wp2_with fail
      refine (to_token t.k t.a t.s _).mono ?_
      rintro e w2 ⟨rfl, b2⟩
      have HB2 := Lib.hid (HB.out.trans (b2.mono HB.out.size))
      have HK2 := Lib.hid (HK.out.keep b2 HK.out.lt)
      obtain ⟨v0, e0⟩ := HK2.out.some (I * 3) (by omega)
      obtain ⟨v1, e1⟩ := HK2.out.some (I * 3 + 1) (by omega)
      obtain ⟨v2, e2⟩ := HK2.out.some (I * 3 + 2) (by omega)
      have f0 := HK2.out.frozen (I * 3)
      have f1 := HK2.out.frozen (I * 3 + 1)
      have f2 := HK2.out.frozen (I * 3 + 2)
      clear b2 c0 c1 c2
      go_wp2
      go_roundw
      case rel =>
        refine ⟨I + 1, by omega, by go_num, ((HB2.out.setCell (Nat.le_refl _) _).setCell (Nat.le_refl _) _).setCell (Nat.le_refl _) _, ?_⟩
        have hp := HK2.out.put t (by simp; omega)
        rw [List.length_take, Nat.min_eq_left hI, HT.out, ← List.take_succ_eq_append_getElem hlt] at hp
        rw [HT.out]
        exact hp
      case measure => simp [intOf]; omega
    · obtain rfl : I = l.length := by omega
      have HN := Lib.hid (show Blk wr w.heap.size l.length l by have := HK.out; rwa [List.take_length] at this)
      go_wp2
      go_ret
      exact ⟨rfl, HB.out, HN.out⟩

/-! ### Tokens compared -/
theorem eq_facts {x c : Int} (h : x = c) : (x == c) = true ∧ (x != c) = false := by subst h; simp
theorem ne_facts {x c : Int} (h : ¬ x = c) : (x == c) = false ∧ (x != c) = true := by simp [h]
theorem str_eq {x y : ByteArray} (h : x = y) : (x.toList == y.toList) = true ∧ (x.toList != y.toList) = false := by subst h; simp
theorem str_ne {x y : ByteArray} (h : ¬ x = y) : (x.toList == y.toList) = false ∧ (x.toList != y.toList) = true := by
  have : (x.toList == y.toList) = false := by
    rw [beq_eq_false_iff_ne, ByteArray.toList_eq, ByteArray.toList_eq]
    intro e
    exact h (ByteArray.ext (Array.toList_inj.1 e))
  exact ⟨this, by rw [bne, this]; rfl⟩

instance : DecidableEq Tk := fun x y =>
  if h : x.k = y.k ∧ x.s = y.s ∧ x.a = y.a then isTrue (by cases x; cases y; simp_all) else isFalse (fun e => h (by subst e; exact ⟨rfl, rfl, rfl⟩))

theorem below_two (w : World) (a b : Obj) : Below w.heap.size w ((w.alloc a).alloc b) := ((Below.refl _ _).alloc (Nat.le_refl _) _).alloc (by simp) _
theorem eq_token (x y : Tk) (w : World) :
    Calls Try.prog 22 #[.agg #[.int .i64 x.k, .string x.s, .int .i64 x.a], .agg #[.int .i64 y.k, .string y.s, .int .i64 y.a]] w fun e w' => e = .returned (.bool (decide (x = y))) ∧ Below w.heap.size w w' := by
  obtain ⟨k, s, a⟩ := x
  obtain ⟨k', s', a'⟩ := y
  by_cases h1 : k = k'
  · obtain ⟨d1, d2⟩ := eq_facts h1
    by_cases h2 : s = s'
    · obtain ⟨d3, d4⟩ := str_eq h2
      by_cases h3 : a = a'
      · obtain ⟨d5, d6⟩ := eq_facts h3
        have HE := Lib.hid (show decide ((⟨k, s, a⟩ : Tk) = ⟨k', s', a'⟩) = true by rw [h1, h2, h3]; exact decide_eq_true rfl)
        clear h1 h2 h3
        go_enter Try.func22, Try.ntmps22
        go_wp2
        go_ret
        exact ⟨by rw [HE.out]; rfl, below_two _ _ _⟩
      · obtain ⟨d5, d6⟩ := ne_facts h3
        have HE := Lib.hid (show decide ((⟨k, s, a⟩ : Tk) = ⟨k', s', a'⟩) = false by rw [decide_eq_false_iff_not]; intro e; injection e with e1 e2 e3; exact h3 e3)
        clear h1 h2 h3
        go_enter Try.func22, Try.ntmps22
        go_wp2
        go_ret
        exact ⟨by rw [HE.out]; rfl, below_two _ _ _⟩
    · obtain ⟨d3, d4⟩ := str_ne h2
      have HE := Lib.hid (show decide ((⟨k, s, a⟩ : Tk) = ⟨k', s', a'⟩) = false by rw [decide_eq_false_iff_not]; intro e; injection e with e1 e2 e3; exact h2 e2)
      clear h1 h2
      go_enter Try.func22, Try.ntmps22
      go_wp2
      go_ret
      exact ⟨by rw [HE.out]; rfl, below_two _ _ _⟩
  · obtain ⟨d1, d2⟩ := ne_facts h1
    have HE := Lib.hid (show decide ((⟨k, s, a⟩ : Tk) = ⟨k', s', a'⟩) = false by rw [decide_eq_false_iff_not]; intro e; injection e with e1 e2 e3; exact h1 e1)
    clear h1
    go_enter Try.func22, Try.ntmps22
    go_wp2
    go_ret
    exact ⟨by rw [HE.out]; rfl, below_two _ _ _⟩

/-- Two tokens' cells, and nothing below has turned. -/
theorem six_start {w W : World} {b b' o o' : Nat} {x y : Tk} (h : At W b o x) (h' : At W b' o' y) (hB : Below w.heap.size w W) :
    W.cell? ⟨b, o, none⟩ = some (.int .i64 x.k) ∧ W.cell? ⟨b, o + 1, none⟩ = some (.string x.s) ∧ W.cell? ⟨b, o + 2, none⟩ = some (.int .i64 x.a) ∧ W.cell? ⟨b', o', none⟩ = some (.int .i64 y.k) ∧ W.cell? ⟨b', o' + 1, none⟩ = some (.string y.s) ∧ W.cell? ⟨b', o' + 2, none⟩ = some (.int .i64 y.a) ∧ Below w.heap.size w W :=
  ⟨h.1, h.2.1, h.2.2, h'.1, h'.2.1, h'.2.2, hB⟩
theorem six_drew {w W : World} {b b' o o' : Nat} {x y : Tk}
    (h : W.cell? ⟨b, o, none⟩ = some (.int .i64 x.k) ∧ W.cell? ⟨b, o + 1, none⟩ = some (.string x.s) ∧ W.cell? ⟨b, o + 2, none⟩ = some (.int .i64 x.a) ∧ W.cell? ⟨b', o', none⟩ = some (.int .i64 y.k) ∧ W.cell? ⟨b', o' + 1, none⟩ = some (.string y.s) ∧ W.cell? ⟨b', o' + 2, none⟩ = some (.int .i64 y.a) ∧ Below w.heap.size w W) :
    W.drew.cell? ⟨b, o, none⟩ = some (.int .i64 x.k) ∧ W.drew.cell? ⟨b, o + 1, none⟩ = some (.string x.s) ∧ W.drew.cell? ⟨b, o + 2, none⟩ = some (.int .i64 x.a) ∧ W.drew.cell? ⟨b', o', none⟩ = some (.int .i64 y.k) ∧ W.drew.cell? ⟨b', o' + 1, none⟩ = some (.string y.s) ∧ W.drew.cell? ⟨b', o' + 2, none⟩ = some (.int .i64 y.a) ∧ Below w.heap.size w W.drew :=
  ⟨h.1, h.2.1, h.2.2.1, h.2.2.2.1, h.2.2.2.2.1, h.2.2.2.2.2.1, h.2.2.2.2.2.2.drew⟩
theorem six_keep {w W w1 : World} {b b' o o' : Nat} {x y : Tk} (hb : b < w.heap.size) (hb' : b' < w.heap.size)
    (h : W.cell? ⟨b, o, none⟩ = some (.int .i64 x.k) ∧ W.cell? ⟨b, o + 1, none⟩ = some (.string x.s) ∧ W.cell? ⟨b, o + 2, none⟩ = some (.int .i64 x.a) ∧ W.cell? ⟨b', o', none⟩ = some (.int .i64 y.k) ∧ W.cell? ⟨b', o' + 1, none⟩ = some (.string y.s) ∧ W.cell? ⟨b', o' + 2, none⟩ = some (.int .i64 y.a) ∧ Below w.heap.size w W) (hk : Below W.heap.size W w1) :
    w1.cell? ⟨b, o, none⟩ = some (.int .i64 x.k) ∧ w1.cell? ⟨b, o + 1, none⟩ = some (.string x.s) ∧ w1.cell? ⟨b, o + 2, none⟩ = some (.int .i64 x.a) ∧ w1.cell? ⟨b', o', none⟩ = some (.int .i64 y.k) ∧ w1.cell? ⟨b', o' + 1, none⟩ = some (.string y.s) ∧ w1.cell? ⟨b', o' + 2, none⟩ = some (.int .i64 y.a) ∧ Below w.heap.size w w1 := by
  have hs := h.2.2.2.2.2.2.size
  have k1 : At w1 b o x := At.keep ⟨h.1, h.2.1, h.2.2.1⟩ hk (by omega)
  have k2 : At w1 b' o' y := At.keep ⟨h.2.2.2.1, h.2.2.2.2.1, h.2.2.2.2.2.1⟩ hk (by omega)
  exact six_start k1 k2 (h.2.2.2.2.2.2.trans (hk.mono hs))

def RelEq (B : Nat) (W : World) (l m : List Tk) (i : Value) (wr : World) : Prop :=
  ∃ I : Nat, I ≤ l.length ∧ i = .int .i64 (I : Int) ∧ Below B W wr ∧ l.take I = m.take I

theorem take_step {l m : List Tk} {I : Nat} (h : I < l.length) (hlen : l.length = m.length) (ht : l.take I = m.take I) (he : l[I] = m[I]'(hlen ▸ h)) : l.take (I + 1) = m.take (I + 1) := by
  rw [List.take_succ_eq_append_getElem h, List.take_succ_eq_append_getElem (hlen ▸ h), ht, he]
theorem at_ne {l m : List Tk} {I : Nat} (h : I < l.length) (hlen : l.length = m.length) (he : ¬ l[I] = m[I]'(hlen ▸ h)) : ¬ l = m := by
  intro e; subst e; exact he rfl

set_option maxHeartbeats 1600000 in
theorem eq_toks (l m : List Tk) (a a' : Option Addr) (cap cap' : Nat) (w : World) (hn : l.length ≤ 1048576) (hn' : m.length ≤ 1048576) (hc : Lies w.heap.size w a l) (hc' : Lies w.heap.size w a' m) :
    Calls Try.prog 10 #[.slice a l.length cap, .slice a' m.length cap'] w fun e w' => e = .returned (.bool (decide (l = m))) ∧ Below w.heap.size w w' := by
  have HC := Lib.hid hc
  have HC' := Lib.hid hc'
  clear hc hc'
  by_cases hlen : l.length = m.length
  · have HLEN := Lib.hid hlen
    obtain ⟨n, hln⟩ : ∃ n, n = l.length := ⟨_, rfl⟩
    have HLN := Lib.hid hln
    rw [← hlen, ← hln]
    rw [← hln] at hn
    have hd : (((n : Int)) != (n : Int)) = false := by simp
    clear hlen hn' hln
    go_enter Try.func10, Try.ntmps10
    go_wp2
    go_loopw [5] (fun i wr => RelEq w.heap.size w l m i wr) (fun i _ => n - (intOf i).toNat)
    case atStart => exact ⟨0, by omega, rfl, Below.refl _ _, by simp⟩
    case round =>
      obtain ⟨I, hI, rfl, hbel, htk⟩ := hrel
      have HB := Lib.hid hbel
      have HT := Lib.hid htk
      rw [← HLN.out] at hI
      clear hbel htk
      by_cases hlt : I < n
      · have hl1 : I < l.length := by have := HLN.out; omega
        have hl2 : I < m.length := by have := HLEN.out; omega
        obtain ⟨b, o, rfl, hb, hcell⟩ := lies_at HC.out hl1
        obtain ⟨b', o', rfl, hb', hcell'⟩ := lies_at HC'.out hl2
        have HX := Lib.hid ((hcell I hl1).keep HB.out hb)
        have HY := Lib.hid ((hcell' I hl2).keep HB.out hb')
        obtain ⟨x, hx⟩ : ∃ x, x = l[I] := ⟨_, rfl⟩
        obtain ⟨y, hy⟩ : ∃ y, y = m[I] := ⟨_, rfl⟩
        rw [← hx] at HX
        rw [← hy] at HY
        have HXE := Lib.hid hx
        have HYE := Lib.hid hy
        have hi1 : (I : Int) < (n : Int) := by omega
        have hi0 : (0 : Int) ≤ (I : Int) := by omega
        clear hx hy hcell hcell'
        have HS0 := Lib.hid (six_start HX.out HY.out HB.out)
        by_cases he : x = y
        · have HS := Lib.hid (take_step hl1 HLEN.out HT.out (by rw [← HXE.out, ← HYE.out]; exact he))
          have HD := Lib.hid (show decide (x = y) = true from decide_eq_true he)
          clear he
          go_wp2
          go_region_held3 (fun w' => w'.cell? ⟨b, o + I * 3, none⟩ = some (.int .i64 x.k) ∧ w'.cell? ⟨b, o + I * 3 + 1, none⟩ = some (.string x.s) ∧ w'.cell? ⟨b, o + I * 3 + 2, none⟩ = some (.int .i64 x.a) ∧ w'.cell? ⟨b', o' + I * 3, none⟩ = some (.int .i64 y.k) ∧ w'.cell? ⟨b', o' + I * 3 + 1, none⟩ = some (.string y.s) ∧ w'.cell? ⟨b', o' + I * 3 + 2, none⟩ = some (.int .i64 y.a) ∧ Below w.heap.size w w')
            (first | exact six_drew HS0.out | exact HS0.out | exact six_keep hb hb' (by assumption) (by assumption) | exact six_drew (by assumption))
            (first | (go_at_call 22; refine (eq_token x y _).mono ?_; rintro e w1 ⟨he, b1⟩; rw [HD.out] at he; subst he))
          go_wp2
          go_roundw
          case rel => exact ⟨I + 1, by have := HLN.out; omega, by go_num, (by assumption : _ ∧ _ ∧ _ ∧ _ ∧ _ ∧ _ ∧ Below w.heap.size w _).2.2.2.2.2.2, HS.out⟩
          case measure => simp [intOf]; omega
        · have HS := Lib.hid (show decide (l = m) = false by rw [decide_eq_false_iff_not]; exact at_ne hl1 HLEN.out (by rw [← HXE.out, ← HYE.out]; exact he))
          have HD := Lib.hid (show decide (x = y) = false from decide_eq_false he)
          clear he
          go_wp2
          go_region_held3 (fun w' => w'.cell? ⟨b, o + I * 3, none⟩ = some (.int .i64 x.k) ∧ w'.cell? ⟨b, o + I * 3 + 1, none⟩ = some (.string x.s) ∧ w'.cell? ⟨b, o + I * 3 + 2, none⟩ = some (.int .i64 x.a) ∧ w'.cell? ⟨b', o' + I * 3, none⟩ = some (.int .i64 y.k) ∧ w'.cell? ⟨b', o' + I * 3 + 1, none⟩ = some (.string y.s) ∧ w'.cell? ⟨b', o' + I * 3 + 2, none⟩ = some (.int .i64 y.a) ∧ Below w.heap.size w w')
            (first | exact six_drew HS0.out | exact HS0.out | exact six_keep hb hb' (by assumption) (by assumption) | exact six_drew (by assumption))
            (first | (go_at_call 22; refine (eq_token x y _).mono ?_; rintro e w1 ⟨he, b1⟩; rw [HD.out] at he; subst he))
          go_wp2
          go_ret
          exact ⟨by rw [HS.out]; rfl, (by assumption : _ ∧ _ ∧ _ ∧ _ ∧ _ ∧ _ ∧ Below w.heap.size w _).2.2.2.2.2.2⟩
      · have HS := Lib.hid (show decide (l = m) = true by
          have h1 := HT.out
          have h2 := HLEN.out
          have h3 := HLN.out
          rw [List.take_of_length_le (by omega), List.take_of_length_le (by omega)] at h1
          exact decide_eq_true h1)
        go_wp2
        go_ret
        exact ⟨by rw [HS.out]; rfl, HB.out⟩
  · have HS := Lib.hid (show decide (l = m) = false by rw [decide_eq_false_iff_not]; intro e; exact hlen (by rw [e]))
    have hd : (((l.length : Int)) != (m.length : Int)) = true := by simp; omega
    clear hlen
    go_enter Try.func10, Try.ntmps10
    go_wp2
    go_ret
    exact ⟨by rw [HS.out]; rfl, Below.refl _ _⟩
end Go.Proofs.Ytckeepjfbpphaaa.tk
