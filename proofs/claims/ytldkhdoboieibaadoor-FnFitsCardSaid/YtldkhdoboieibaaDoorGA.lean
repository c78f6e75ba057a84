/-
  Package-level tables of strings: what a list of laid variables says of them, and that they stand behind a call that only adds memory. No program's text is walked here.
  LevelWord of both sides: contracts; what impl's table of level words holds.
-/
import Derived.Test.YtldkhdoboieibaaDoorBase
import Derived.LaidLaws
import Derived.Lib.LaidTab
import Derived.ChangeArms
import Derived.Below
import Derived.Deep.DeepHandedRow
import Derived.Stop.LaidErr
import Derived.Test.YtldkhdoboieibaaDoorRows
import Derived.Test.YtldkhdoboieibaaDoorChars
import Derived.WalkKit
import Derived.ProofKit
import Derived.OpenShut
import Derived.ShutString
import Derived.ChangeOld
import Derived.Laws.Rows
import Derived.WalkSpells
import Derived.WalkLawsBesides
namespace Go.Proofs.YtldkhdoboieibaaDoor
open Go.ChangeShapes Go.WideShapes Go.ChangeAt Go.RowKit

def strCells (l : List ByteArray) : Array Value := (l.map Value.string).toArray
def strData {H : Type} (l : List ByteArray) : DataW H := .agg (l.map fun s => .lit (.string s.data.toList))

theorem cells_of_strs {H : Type} {enc : TypeId × Value → H} {P : Program} {w : World} {base : Nat} {sp : Nat → Bool} {held : Bool} {fuel : Nat} {t e : TypeId} {cs : List Value} {l : List ByteArray} {p : List MemPlace}
    (ht : P.underlying t = some (.array l.length e)) (he : P.underlying e = some .string) (hce : P.cellsOf e = 1) (hct : P.cellsOf t = l.length)
    (h : DataW.trod enc P w base sp held fuel t cs = some (strData l, p)) : cs = l.map Value.string := by
  cases fuel with
  | zero => simp [DataW.trod] at h
  | succ fuel =>
    simp only [DataW.trod, ht, hce, hct, Nat.mul_one] at h
    split at h
    · rename_i hl
      obtain ⟨xs, hm, hx⟩ := Option.map_eq_some_iff.1 h
      have hxs : xs.map (·.1) = l.map fun s => (DataW.lit (.string s.data.toList) : DataW H) := by simpa [strData] using congrArg Prod.fst hx
      apply List.ext_getElem?
      intro i
      by_cases hi : i < l.length
      · obtain ⟨b, hb, hf⟩ := Lib.mapM_at hm i i (by simp [hi])
        obtain ⟨s, hc, rfl, _⟩ := DataW.trod_string he hf
        have h0 : (List.take 1 (List.drop i cs))[0]? = [Value.string s][0]? := by rw [hc]
        have h1 : cs[i]? = some (.string s) := by simpa [List.getElem?_take, List.getElem?_drop] using h0
        have h2 : (xs.map (·.1))[i]? = some (DataW.lit (.string s.data.toList) : DataW H) := by simp [hb]
        rw [hxs, List.getElem?_map, List.getElem?_eq_getElem hi] at h2
        simp only [Option.map_some, Option.some.injEq, DataW.lit.injEq, Lit.string.injEq] at h2
        have h3 : l[i] = s := ByteArray.ext (Array.toList_inj.1 h2)
        rw [h1, List.getElem?_map, List.getElem?_eq_getElem hi, h3]
        rfl
      · rw [List.getElem?_eq_none (by omega), List.getElem?_eq_none (by simp; omega)]
    · cases h

/-- From a row's list to the variable: the table stands first. -/
theorem strs_of_head {P : Program} {W : World} {name : String} {l : List ByteArray} {rest : List (String × DataW Unit)} {g : Nat} {t e : TypeId}
    (hg : P.globalNamed name = some g) (hty : (P.globals[g]?).map (·.type) = some t) (ht : P.underlying t = some (.array l.length e)) (he : P.underlying e = some .string) (hce : P.cellsOf e = 1) (hct : P.cellsOf t = l.length)
    (h : laidMet P ((name, strData l) :: rest) W) : W.var? P name = some (strCells l) := by
  obtain ⟨ps, ⟨g', t', cs, fuel, p, q, hg', ht', hvar, hd, _, _⟩, _⟩ := h
  obtain rfl := Option.some.inj (hg.symm.trans hg')
  obtain rfl := Option.some.inj (hty.symm.trans ht')
  have := cells_of_strs ht he hce hct hd
  rw [hvar]
  unfold strCells
  rw [← this]

/-- A package-level variable that lay before the call stands behind it. -/
theorem var_stays {P : Program} {w w' : World} {name : String} {cs : Array Value} (h : w.var? P name = some cs) (hb : Below w.heap.size w w') : w'.var? P name = some cs := by
  unfold World.var? at h ⊢
  cases hg : P.globalNamed name with
  | none => rw [hg] at h; cases h
  | some g =>
    rw [hg] at h
    simp only [Option.bind_some] at h ⊢
    have hlt : g < w.heap.size := by
      rcases Nat.lt_or_ge g w.heap.size with h' | h'
      · exact h'
      · rw [Array.getElem?_eq_none h'] at h; cases h
    rw [hb.block g hlt]
    exact h

theorem str_cell {P : Program} {w : World} {name : String} {l : List ByteArray} {g : Nat} (hg : P.globalNamed name = some g) (h : w.var? P name = some (strCells l)) (i : Nat) (hi : i < l.length) :
    w.cell? ⟨g, i, none⟩ = some (.string (l.getD i ⟨#[]⟩)) := by
  have := World.var?_cell hg h i
  simpa [strCells, List.getD, hi] using this

theorem trodVars_len {H : Type} {enc : TypeId × Value → H} {P : Program} {w : World} {sp : Nat → Bool} : ∀ {ns : List String} {gs : List (DataW H)} {ps : List MemPlace}, DataW.TrodVars enc P w sp ns gs ps → gs.length = ns.length
  | [], [], _, _ => rfl
  | [], _ :: _, _, h => h.elim
  | _ :: _, [], _, h => h.elim
  | _ :: _, _ :: _, _, ⟨_, _, _, _, _, _, _, _, _, _, hs, _⟩ => congrArg Nat.succ (trodVars_len hs)
end Go.Proofs.YtldkhdoboieibaaDoor

namespace Go.Proofs.YtldkhdoboieibaaDoor.lvw
open Go.ChangeShapes Go.WideShapes Go.ChangeAt Go.RowKit
set_option linter.unusedVariables false
def words : List ByteArray := [⟨#[]⟩, ⟨#[97, 115, 115, 105, 103, 110]⟩, ⟨#[99, 111, 110, 100]⟩, ⟨#[111, 114]⟩, ⟨#[97, 110, 100]⟩, ⟨#[105, 110]⟩, ⟨#[109, 97, 116, 99, 104]⟩, ⟨#[99, 111, 109, 112, 97, 114, 101]⟩, ⟨#[99, 97, 116]⟩, ⟨#[97, 100, 100]⟩, ⟨#[109, 117, 108]⟩, ⟨#[117, 110, 97, 114, 121]⟩, ⟨#[112, 111, 119]⟩, ⟨#[105, 110, 99, 114]⟩, ⟨#[102, 105, 101, 108, 100]⟩, ⟨#[112, 114, 105, 109, 97, 114, 121]⟩]
theorem gL : Tryd.prog.globalNamed "loop.example/g01543/impl.levelWords" = some 0 := by kernel_rfl
theorem gLType : (Tryd.prog.globals[0]?).map (·.type) = some 41 := by kernel_rfl
theorem cellsL : Tryd.prog.cellsOf 41 = 16 := by kernel_rfl
theorem cellsStr : Tryd.prog.cellsOf 9 = 1 := by kernel_rfl
/-- What impl's walk needs of the package-level variable. -/
structure Held (w : World) : Prop where
  lw : w.var? Tryd.prog "loop.example/g01543/impl.levelWords" = some (Go.Proofs.YtldkhdoboieibaaDoor.strCells words)
theorem Held.below {w w' : World} (h : Held w) (hb : Below w.heap.size w w') : Held w' := ⟨var_stays h.lw hb⟩
theorem held {W : World} {rest : List (String × DataW Unit)} (h : laidMet Tryd.prog (("loop.example/g01543/impl.levelWords", Rows.laid_loop_example_g01543_impl_levelWords) :: rest) W) : Held W :=
  ⟨strs_of_head (l := words) gL gLType Tryd.underlying41 Tryd.underlying9 cellsStr cellsL h⟩
theorem box_below (w : World) (o : Obj) : Below w.heap.size w (w.alloc o) := (Below.refl w.heap.size w).alloc (Nat.le_refl _) o
def levelWord (n : Int) : ByteArray := if 0 ≤ n ∧ n < 16 then words.getD n.toNat ⟨#[]⟩ else ⟨#[]⟩

theorem impl_word (n : Int) (w : World) (hh : Held w) : Calls Tryd.prog 9 #[.int .i64 n] w fun e w' => e = .returned (.string (levelWord n)) ∧ w = w' := by
  have HH := Lib.hid hh
  clear hh
  by_cases h : 0 ≤ n ∧ n < 16
  · obtain ⟨K, rfl⟩ : ∃ K : Nat, n = (K : Int) := ⟨n.toNat, by omega⟩
    have hK : K < 16 := by omega
    have HS := Lib.hid (show levelWord (K : Int) = words.getD K ⟨#[]⟩ by unfold levelWord; rw [if_pos h]; rfl)
    have hcell := str_cell (l := words) gL HH.out.lw K hK
    obtain ⟨x, hx⟩ : ∃ x, x = words.getD K ⟨#[]⟩ := ⟨_, rfl⟩
    have HX := Lib.hid hx
    rw [← hx] at hcell
    have h1 : ¬ (K : Int) < 0 := by omega
    have h2 : ¬ (16 : Int) ≤ (K : Int) := by omega
    clear hx h
    go_enter Tryd.func9, Tryd.ntmps9
    go_wp2
    go_ret
    exact ⟨by rw [HS.out, ← HX.out]; rfl, rfl⟩
  · have HE := Lib.hid (show levelWord n = ⟨#[]⟩ by unfold levelWord; rw [if_neg h])
    by_cases h0 : n < 0
    · clear h
      go_enter Tryd.func9, Tryd.ntmps9
      go_wp2
      go_ret
      exact ⟨by rw [HE.out]; rfl, rfl⟩
    · have h1 : (16 : Int) ≤ n := by omega
      clear h
      go_enter Tryd.func9, Tryd.ntmps9
      go_wp2
      go_ret
      exact ⟨by rw [HE.out]; rfl, rfl⟩
end Go.Proofs.YtldkhdoboieibaaDoor.lvw
