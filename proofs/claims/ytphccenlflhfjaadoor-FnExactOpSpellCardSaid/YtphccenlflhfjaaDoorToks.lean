/-
  The keywords, the operators and the builtins as lists of strings; spec.l3Find, the builtins of both sides: contracts.
-/
import Derived.Test.YtphccenlflhfjaaDoorRows
import Derived.Test.YtphccenlflhfjaaDoorBase
import Derived.WalkKit
import Derived.ProofKit
import Derived.OpenShut
import Derived.ShutString
import Derived.ChangeOld
import Derived.Below
import Derived.Laws.Rows
import Derived.WalkSpells
import Derived.WalkLawsBesides
namespace Go.Proofs.YtphccenlflhfjaaDoor.toks
open Go.ChangeShapes Go.WideShapes Go.ChangeAt Go.RowKit
set_option linter.unusedVariables false
def words : List ByteArray := [⟨#[66, 69, 71, 73, 78]⟩, ⟨#[69, 78, 68]⟩, ⟨#[102, 117, 110, 99, 116, 105, 111, 110]⟩, ⟨#[105, 102]⟩, ⟨#[101, 108, 115, 101]⟩, ⟨#[119, 104, 105, 108, 101]⟩, ⟨#[102, 111, 114]⟩, ⟨#[100, 111]⟩, ⟨#[98, 114, 101, 97, 107]⟩, ⟨#[99, 111, 110, 116, 105, 110, 117, 101]⟩, ⟨#[110, 101, 120, 116]⟩, ⟨#[101, 120, 105, 116]⟩, ⟨#[114, 101, 116, 117, 114, 110]⟩, ⟨#[100, 101, 108, 101, 116, 101]⟩, ⟨#[105, 110]⟩, ⟨#[112, 114, 105, 110, 116]⟩, ⟨#[112, 114, 105, 110, 116, 102]⟩]
def signs : List ByteArray := [⟨#[123]⟩, ⟨#[125]⟩, ⟨#[40]⟩, ⟨#[41]⟩, ⟨#[91]⟩, ⟨#[93]⟩, ⟨#[44]⟩, ⟨#[59]⟩, ⟨#[43, 61]⟩, ⟨#[45, 61]⟩, ⟨#[42, 61]⟩, ⟨#[47, 61]⟩, ⟨#[37, 61]⟩, ⟨#[94, 61]⟩, ⟨#[124, 124]⟩, ⟨#[38, 38]⟩, ⟨#[33, 126]⟩, ⟨#[61, 61]⟩, ⟨#[60, 61]⟩, ⟨#[62, 61]⟩, ⟨#[33, 61]⟩, ⟨#[43, 43]⟩, ⟨#[45, 45]⟩, ⟨#[62, 62]⟩, ⟨#[61]⟩, ⟨#[43]⟩, ⟨#[45]⟩, ⟨#[42]⟩, ⟨#[47]⟩, ⟨#[37]⟩, ⟨#[94]⟩, ⟨#[33]⟩, ⟨#[62]⟩, ⟨#[60]⟩, ⟨#[124]⟩, ⟨#[63]⟩, ⟨#[58]⟩, ⟨#[126]⟩, ⟨#[36]⟩]
def builtins : List ByteArray := [⟨#[97, 116, 97, 110, 50]⟩, ⟨#[99, 108, 111, 115, 101]⟩, ⟨#[99, 111, 115]⟩, ⟨#[101, 120, 112]⟩, ⟨#[103, 115, 117, 98]⟩, ⟨#[105, 110, 100, 101, 120]⟩, ⟨#[105, 110, 116]⟩, ⟨#[108, 101, 110, 103, 116, 104]⟩, ⟨#[108, 111, 103]⟩, ⟨#[109, 97, 116, 99, 104]⟩, ⟨#[114, 97, 110, 100]⟩, ⟨#[115, 105, 110]⟩, ⟨#[115, 112, 108, 105, 116]⟩, ⟨#[115, 112, 114, 105, 110, 116, 102]⟩, ⟨#[115, 113, 114, 116]⟩, ⟨#[115, 114, 97, 110, 100]⟩, ⟨#[115, 117, 98]⟩, ⟨#[115, 117, 98, 115, 116, 114]⟩, ⟨#[115, 121, 115, 116, 101, 109]⟩, ⟨#[116, 111, 108, 111, 119, 101, 114]⟩, ⟨#[116, 111, 117, 112, 112, 101, 114]⟩]
def strCells (l : List ByteArray) : Array Value := (l.map Value.string).toArray
/-- The place of s in l; l's length where it is not there. -/
def place (l : List ByteArray) (s : ByteArray) : Nat := l.findIdx fun x => decide (x = s)
def find (l : List ByteArray) (s : ByteArray) : Int := if place l s < l.length then (place l s : Int) else -1

/-- The loops' relation: s is not among the first I. -/
def Rel (l : List ByteArray) (s : ByteArray) (i : Value) : Prop := ∃ I : Nat, I ≤ l.length ∧ i = .int .i64 I ∧ I ≤ place l s

theorem place_here {l : List ByteArray} {s : ByteArray} {I : Nat} (hI : I < l.length) (hp : I ≤ place l s) (h : l.getD I ⟨#[]⟩ = s) : place l s = I := by
  unfold place at *
  have h' : l[I] = s := by simpa [List.getD, hI] using h
  have := List.not_of_lt_findIdx (p := fun x => decide (x = s)) (xs := l) (i := I)
  rcases Nat.lt_or_ge I (l.findIdx fun x => decide (x = s)) with hlt | hge
  · exact absurd h' (by simpa using this hlt)
  · omega
theorem place_next {l : List ByteArray} {s : ByteArray} {I : Nat} (hI : I < l.length) (hp : I ≤ place l s) (h : ¬ l.getD I ⟨#[]⟩ = s) : I + 1 ≤ place l s := by
  unfold place at *
  rcases Nat.lt_or_ge I (l.findIdx fun x => decide (x = s)) with hlt | hge
  · exact hlt
  · have e : l.findIdx (fun x => decide (x = s)) = I := by omega
    have hlt : l.findIdx (fun x => decide (x = s)) < l.length := by omega
    have := List.findIdx_getElem (p := fun x => decide (x = s)) (xs := l) (w := hlt)
    simp only [decide_eq_true_eq] at this
    have e2 : l[I] = s := by simpa [e] using this
    exact absurd (by simpa [List.getD, hI] using e2) h
theorem find_end {l : List ByteArray} {s : ByteArray} {I : Nat} (hI : ¬ I < l.length) (hp : I ≤ place l s) : find l s = -1 := by
  unfold find
  rw [if_neg (by omega)]
theorem find_here {l : List ByteArray} {s : ByteArray} {I : Nat} (hI : I < l.length) (h : place l s = I) : find l s = I := by
  unfold find
  rw [h, if_pos hI]

theorem words_list (w : World) : Calls Tryd.prog 17 #[] w fun e w' => e = .returned (.slice (some ⟨w.heap.size, 0, none⟩) 17 17) ∧ Below w.heap.size w w' ∧ w'.heap[w.heap.size]? = some (.cells (strCells words) 9 (0, 0)) := by
  have hb : Below w.heap.size w (w.alloc (.cells (strCells words) 9)) := (Below.refl _ _).alloc (Nat.le_refl _) _
  have hh := heap_alloc_new w (.cells (strCells words) 9)
  have HF := Lib.hid (And.intro hb hh)
  clear hb hh
  go_enter Tryd.func17, Tryd.ntmps17
  go_wp2
  go_ret
  exact ⟨rfl, HF.out⟩

theorem signs_list (w : World) : Calls Tryd.prog 18 #[] w fun e w' => e = .returned (.slice (some ⟨w.heap.size, 0, none⟩) 39 39) ∧ Below w.heap.size w w' ∧ w'.heap[w.heap.size]? = some (.cells (strCells signs) 9 (0, 0)) := by
  have hb : Below w.heap.size w (w.alloc (.cells (strCells signs) 9)) := (Below.refl _ _).alloc (Nat.le_refl _) _
  have hh := heap_alloc_new w (.cells (strCells signs) 9)
  have HF := Lib.hid (And.intro hb hh)
  clear hb hh
  go_enter Tryd.func18, Tryd.ntmps18
  go_wp2
  go_ret
  exact ⟨rfl, HF.out⟩

/-! ### Builtins -/
def isIn (l : List ByteArray) (s : ByteArray) : Bool := l.any fun b => s.toList == b.data.toList
def isBuiltin (s : ByteArray) : Bool := isIn builtins s
theorem same_iff {s b : ByteArray} : (s.toList == b.data.toList) = true ↔ b = s := by
  rw [beq_iff_eq, ByteArray.toList_eq]
  refine ⟨fun h => (ByteArray.ext (Array.toList_inj.1 h)).symm, fun h => by rw [h]⟩
theorem place_lt {l : List ByteArray} {s : ByteArray} : place l s < l.length ↔ isIn l s = true := by
  unfold place isIn
  rw [List.findIdx_lt_length, List.any_eq_true]
  simp only [same_iff, decide_eq_true_eq]
theorem find_nonneg {l : List ByteArray} {s : ByteArray} : decide (0 ≤ find l s) = isIn l s := by
  cases h : isIn l s
  · have h' : ¬ place l s < l.length := fun k => by rw [place_lt.1 k] at h; cases h
    unfold find
    rw [if_neg h']
    decide
  · have := place_lt.2 h
    unfold find
    rw [if_pos this]
    simp

end Go.Proofs.YtphccenlflhfjaaDoor.toks
