/-
  The verifier's drawing functions of strings (spec.l1Pick, l2Word, l4Num, l4Str, l4Ere): each answers some string of a bounded size; but for the cursor's own block nothing that lay before is changed.
-/
import Derived.Test.YtlbloemmabjmoaaDoorDrawNum
import Derived.Test.YtlbloemmabjmoaaDoorToks
namespace Go.Proofs.YtlbloemmabjmoaaDoor.draw
open Go.ChangeShapes Go.WideShapes Go.ChangeAt Go.RowKit
open toks (strCells)
set_option linter.unusedVariables false

/-- A slice of bytes that came in: nil, or a row of 'cap' cells, the numbers zs. -/
def IsRow (k : IntKind) (w : World) (a : Option Addr) (len cap : Nat) (zs : List Int) : Prop :=
  (a = none ∧ len = 0 ∧ cap = 0 ∧ zs = []) ∨
  ∃ x, a = some x ∧ len ≤ cap ∧ cap ≤ maxLen ∧ zs.length = cap ∧ (∀ i, i < zs.length → w.cell? (x.add i) = some (.int k (zs.getD i 0))) ∧ ∀ n ∈ zs, (Lit.int k n).wf = true

theorem code_of {w : World} {a : Option Addr} {len cap : Nat} {zs : List Int} (h : IsRow .u8 w a len cap zs) : Code w.heap.size w a len (zs.take len) := by
  rcases h with ⟨rfl, rfl, rfl, rfl⟩ | ⟨x, rfl, hl, hm, hz, hc, hw⟩
  · exact ⟨rfl, by simp, .inl rfl⟩
  · refine ⟨by simp; omega, ?_, ?_⟩
    · intro n hn
      have := hw n (List.mem_of_mem_take hn)
      simp [Lit.wf, IntKind.min, IntKind.max, IntKind.signed, IntKind.bits] at this
      omega
    · by_cases h0 : len = 0
      · exact .inl h0
      · refine .inr ?_
        obtain ⟨b, o, sp⟩ := x
        have c0 := hc 0 (by omega)
        have hsp : sp = none := by simpa [Addr.add] using World.cell?_spot c0
        subst hsp
        have e : ∀ j, (⟨b, o, none⟩ : Addr).add j = ⟨b, o + j, none⟩ := by
          intro j
          simp only [Addr.add]
          split
          · next h0 => subst h0; rfl
          · rfl
        refine ⟨b, o, rfl, World.block_lt_of_cell? w _ c0, ?_⟩
        intro j hj
        have := hc j (by omega)
        rw [e] at this
        rw [this, List.getD_eq_getElem?_getD, List.getD_eq_getElem?_getD, List.getElem?_take, if_pos hj]

theorem Code.up {B B' len : Nat} {w : World} {a : Option Addr} {zs : List Int} (h : Code B w a len zs) (hB : B ≤ B') : Code B' w a len zs := by
  refine ⟨h.1, h.2.1, ?_⟩
  rcases h.2.2 with h0 | ⟨b, o, e, hb, hc⟩
  · exact .inl h0
  · exact .inr ⟨b, o, e, by omega, hc⟩

theorem big_any (a : Option Addr) (len cap : Nat) (w : World) (hl : (len : Int) ≤ 9223372036854775807) :
    Calls Tryd.prog 9 #[.slice a len cap] w fun e w' => e = .returned (.bool (decide (1048576 < len))) ∧ w = w' := by
  by_cases h : 1048576 < len
  · have h' : (1048576 : Int) < (len : Int) := by omega
    go_enter Tryd.func9, Tryd.ntmps9
    go_wp2
    go_ret
    exact ⟨by simp [h], rfl⟩
  · have h' : ¬ (1048576 : Int) < (len : Int) := by omega
    go_enter Tryd.func9, Tryd.ntmps9
    go_wp2
    go_ret
    exact ⟨by simp, rfl⟩

/-- Some string that is as P says. -/
def Strs (B p : Nat) (a : Option Addr) (len cap : Nat) (zs : List Int) (P : ByteArray → Prop) (w : World) (e : Ending) (w' : World) : Prop :=
  ∃ (x : ByteArray) (s' : Nat × Int), P x ∧ e = .returned (.string x) ∧ In B w' p a len cap zs s' ∧ w.grownBy w' (some p)

theorem pick_any {B p len cap : Nat} {w : World} {a : Option Addr} {zs : List Int} {s : Nat × Int} (q n : Nat) (L : List ByteArray) (H : In B w p a len cap zs s) (hq : w.heap[q]? = some (.cells (strCells L) 9 (0, 0))) (hL : L.length = n) (hn : 0 < n) (hqp : q ≠ p) (hn2 : n ≤ 1000) :
    Calls Tryd.prog 64 #[.pointer (some ⟨p, 0, none⟩), .slice (some ⟨q, 0, none⟩) n n] w (Strs B p a len cap zs (fun x => x ∈ L) w) := by
  have HI := Lib.hid H
  clear H
  have hb := belowF_bd zs n s (by omega)
  obtain ⟨K, hK⟩ : ∃ K : Nat, (belowF zs n s).1 = K := ⟨(belowF zs n s).1.toNat, by omega⟩
  have HK := Lib.hid hK
  rw [hK] at hb
  have HQ := Lib.hid hq
  clear hq hK
  go_enter Tryd.func64, Tryd.ntmps64
  go_wp2_with fail
  refine (below_any n HI.out).mono ?_
  rintro e w1 ⟨he, I1, G1⟩
  rw [HK.out] at he
  subst he
  have HI1 := Lib.hid I1
  have hq1 : w1.heap[q]? = some (.cells (strCells L) 9 (0, 0)) := by
    have hlt : q < w.heap.size := lt_of_block HQ.out
    rw [G1.block q hlt (by simpa using hqp)]
    exact HQ.out
  have hKL : K < L.length := by omega
  have hcell : w1.cell? ⟨q, K, none⟩ = some (.string L[K]) := by
    rw [cell_of_row w1 q K _ _ _ hq1]
    simp [strCells, hKL]
  have hmem : L[K] ∈ L := List.getElem_mem hKL
  obtain ⟨z, hz⟩ : ∃ z, z = L[K] := ⟨_, rfl⟩
  rw [← hz] at hcell hmem
  have HM := Lib.hid hmem
  clear I1 hq1 hz hmem
  go_wp2
  go_ret
  exact ⟨z, _, HM.out, rfl, HI1.out, G1⟩

/-- A pick out of a list that was just laid. -/
theorem pick_new {B p len cap : Nat} {w : World} {a : Option Addr} {zs : List Int} {s : Nat × Int} (P : ByteArray → Prop) (n : Nat) (L : List ByteArray) (H : In B w p a len cap zs s) (hP : ∀ x ∈ L, P x) (hL : L.length = n) (hn : 0 < n) (hn2 : n ≤ 1000) :
    Calls Tryd.prog 64 #[.pointer (some ⟨p, 0, none⟩), .slice (some ⟨w.heap.size, 0, none⟩) n n] (w.alloc (.cells (strCells L) 9)) (Strs B p a len cap zs P w) := by
  have hlt := H.lt
  refine (pick_any w.heap.size n L (H.keep ((Below.refl w.heap.size w).alloc (Nat.le_refl _) _) hlt) (heap_alloc_new w _) hL hn (by omega) hn2).mono ?_
  rintro e w' ⟨x, s', hx, he, hI, hG⟩
  exact ⟨x, s', hP x hx, he, hI, grown_trans (World.grownBy_alloc w _ _) hG⟩

def small (x : ByteArray) : Prop := x.size ≤ 16

def l2WordL : List ByteArray := [⟨#[120]⟩, ⟨#[121]⟩, ⟨#[110]⟩, ⟨#[105]⟩, ⟨#[97, 114, 114]⟩, ⟨#[78, 82]⟩, ⟨#[70, 83]⟩, ⟨#[116, 111, 116, 97, 108]⟩, ⟨#[97, 49]⟩, ⟨#[95, 116]⟩, ⟨#[99, 111, 117, 110, 116]⟩]
theorem l2_word_small : ∀ x ∈ l2WordL, small x := by unfold small; decide
theorem l2_word {B p len cap : Nat} {w : World} {a : Option Addr} {zs : List Int} {s : Nat × Int} (H : In B w p a len cap zs s) :
    Calls Tryd.prog 97 #[.pointer (some ⟨p, 0, none⟩)] w (Strs B p a len cap zs small w) := by
  have HI := Lib.hid H
  clear H
  go_enter Tryd.func97, Tryd.ntmps97
  go_wp2_with fail
  refine (pick_new small 11 l2WordL HI.out l2_word_small rfl (by decide) (by decide)).mono ?_
  rintro e w1 ⟨x, s1, hx, rfl, I1, G1⟩
  have HX := Lib.hid hx
  have HI1 := Lib.hid I1
  clear hx I1
  go_wp2
  go_ret
  exact ⟨x, s1, HX.out, rfl, HI1.out, G1⟩

def l4NumL : List ByteArray := [⟨#[48]⟩, ⟨#[49]⟩, ⟨#[52, 50]⟩, ⟨#[51, 46, 53]⟩, ⟨#[46, 53]⟩, ⟨#[55, 46]⟩, ⟨#[49, 101, 51]⟩, ⟨#[50, 69, 45, 52]⟩, ⟨#[49, 48, 46, 50, 53, 101, 43, 49]⟩]
theorem l4_num_small : ∀ x ∈ l4NumL, small x := by unfold small; decide
theorem l4_num {B p len cap : Nat} {w : World} {a : Option Addr} {zs : List Int} {s : Nat × Int} (H : In B w p a len cap zs s) :
    Calls Tryd.prog 94 #[.pointer (some ⟨p, 0, none⟩)] w (Strs B p a len cap zs small w) := by
  have HI := Lib.hid H
  clear H
  go_enter Tryd.func94, Tryd.ntmps94
  go_wp2_with fail
  refine (pick_new small 9 l4NumL HI.out l4_num_small rfl (by decide) (by decide)).mono ?_
  rintro e w1 ⟨x, s1, hx, rfl, I1, G1⟩
  have HX := Lib.hid hx
  have HI1 := Lib.hid I1
  clear hx I1
  go_wp2
  go_ret
  exact ⟨x, s1, HX.out, rfl, HI1.out, G1⟩

def l4StrL : List ByteArray := [⟨#[34, 34]⟩, ⟨#[34, 97, 34]⟩, ⟨#[34, 120, 32, 121, 34]⟩, ⟨#[34, 113, 92, 34, 113, 34]⟩, ⟨#[34, 92, 110, 34]⟩, ⟨#[34, 35, 110, 111, 34]⟩, ⟨#[34, 47, 34]⟩]
theorem l4_str_small : ∀ x ∈ l4StrL, small x := by unfold small; decide
theorem l4_str {B p len cap : Nat} {w : World} {a : Option Addr} {zs : List Int} {s : Nat × Int} (H : In B w p a len cap zs s) :
    Calls Tryd.prog 95 #[.pointer (some ⟨p, 0, none⟩)] w (Strs B p a len cap zs small w) := by
  have HI := Lib.hid H
  clear H
  go_enter Tryd.func95, Tryd.ntmps95
  go_wp2_with fail
  refine (pick_new small 7 l4StrL HI.out l4_str_small rfl (by decide) (by decide)).mono ?_
  rintro e w1 ⟨x, s1, hx, rfl, I1, G1⟩
  have HX := Lib.hid hx
  have HI1 := Lib.hid I1
  clear hx I1
  go_wp2
  go_ret
  exact ⟨x, s1, HX.out, rfl, HI1.out, G1⟩

def l4EreL : List ByteArray := [⟨#[47, 97, 47]⟩, ⟨#[47, 94, 120, 43, 36, 47]⟩, ⟨#[47, 97, 92, 47, 98, 47]⟩, ⟨#[47, 61, 47]⟩, ⟨#[47, 32, 47]⟩, ⟨#[47, 91, 48, 45, 57, 93, 47]⟩]
theorem l4_ere_small : ∀ x ∈ l4EreL, small x := by unfold small; decide
theorem l4_ere {B p len cap : Nat} {w : World} {a : Option Addr} {zs : List Int} {s : Nat × Int} (H : In B w p a len cap zs s) :
    Calls Tryd.prog 96 #[.pointer (some ⟨p, 0, none⟩)] w (Strs B p a len cap zs small w) := by
  have HI := Lib.hid H
  clear H
  go_enter Tryd.func96, Tryd.ntmps96
  go_wp2_with fail
  refine (pick_new small 6 l4EreL HI.out l4_ere_small rfl (by decide) (by decide)).mono ?_
  rintro e w1 ⟨x, s1, hx, rfl, I1, G1⟩
  have HX := Lib.hid hx
  have HI1 := Lib.hid I1
  clear hx I1
  go_wp2
  go_ret
  exact ⟨x, s1, HX.out, rfl, HI1.out, G1⟩
end Go.Proofs.YtlbloemmabjmoaaDoor.draw
