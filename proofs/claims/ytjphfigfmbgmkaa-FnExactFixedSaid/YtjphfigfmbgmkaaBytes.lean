/-
  Lemmas over this seat's program for slices of bytes: 'string(b)', '[]byte{..}'. 
-/
import Derived.Test.YtjphfigfmbgmkaaRows
import Derived.Test.YtjphfigfmbgmkaaBase
import Derived.WalkKit
import Derived.Laws.IdiomStrings
import Derived.Laws.OwnMore
namespace Go.Proofs.Ytjphfigfmbgmkaa
open Go.RowKit

theorem Try.infoByte : (Try.prog.info? 5).map (fun i => (i.zero, i.size, i.bytes)) = some (some (.int .u8 0), 1, 1) := by kernel_rfl

/-- Bytes as the cells of a row. -/
def cellsOf (l : List UInt8) : List Value := l.map (fun b => Value.int .u8 (b.toNat : Int))

theorem cellsOf_snoc (l : List UInt8) (b : UInt8) : cellsOf (l ++ [b]) = cellsOf l ++ [.int .u8 (b.toNat : Int)] := by simp [cellsOf]
theorem cellsOf_length (l : List UInt8) : (cellsOf l).length = l.length := by simp [cellsOf]

/-- 'string(b)', b owned by the call and holding l. -/
theorem conv_own (w : World) (base : Nat) (v : Value) (n : Nat) (l : List UInt8) (hn : n = l.length) (h : w.ownsRow base 5 1 v n (cellsOf l)) :
    (convert 36 9 v).run Try.prog w = .ok (.string ⟨l.toArray⟩) w := by
  subst hn
  rcases h.2 with ⟨rfl, hl⟩ | ⟨g, cap, cur, rfl, hb, hg, hnc, hcm, hcs, htake⟩
  · obtain rfl : l = [] := List.length_eq_zero_iff.1 hl
    rw [run_convert_bytes_string w 36 9 5 none 0 0 Try.underlying36 Try.underlying5 Try.underlying9]
    rfl
  · refine run_convert_bytes_back w 36 9 5 ⟨g, 0, none⟩ cap l Try.underlying36 Try.underlying5 Try.underlying9 ?_
    intro j hj
    have := World.ownsRow.cellAt h j (by simpa using hj)
    have e : (⟨g, 0, none⟩ : Addr).add j = ⟨g, j, none⟩ := by
      simp only [Addr.add, Nat.zero_add]
      split
      · next h0 => subst h0; rfl
      · rfl
    rw [e, this]
    simp [cellsOf, hj]

/-- 'string([]byte{x})'. -/
theorem conv_one (w : World) (x : Int) (h0 : 0 ≤ x) (h1 : x < 256) :
    (convert 36 9 (.slice (some ⟨w.heap.size, 0, none⟩) 1 1)).run Try.prog (w.alloc (.cells #[.int .u8 x] 5)) = .ok (.string ⟨#[UInt8.ofNat x.toNat]⟩) (w.alloc (.cells #[.int .u8 x] 5)) := by
  refine conv_own _ 0 _ 1 [UInt8.ofNat x.toNat] rfl ?_
  have := World.ownsRow_lit (base := 0) (e := 5) (size := 1) w #[.int .u8 x] 1 (by omega) (by unfold maxLen; omega) rfl
  have e : cellsOf [UInt8.ofNat x.toNat] = [.int .u8 x] := by
    simp [cellsOf]
    omega
  rw [e]
  exact this
end Go.Proofs.Ytjphfigfmbgmkaa
