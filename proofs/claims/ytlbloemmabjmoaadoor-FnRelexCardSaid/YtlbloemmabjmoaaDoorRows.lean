/-
  NARROWER THAN 'FOR EVERY INPUT', by the rows' own cells (each row's printed sentence says how): FnRelex: laid · FnPlaces: laid · FnExactLex: laid · FnExactTokensOk: laid · FnExactNeedsGap: laid · FnExactSpell: laid.
  DERIVED. THE GIVEN ROWS OF THIS SEAT. 6 by the template 'for every input the law returns true; each argument reads behind the call as it read before'; 0 by the template 'total and deterministic' (their statements: YtlbloemmabjmoaaDoorTotals.lean).
  GIVEN WITH THE SEED: the statements are not yours to turn. If you find one false, say at which input.
  Laid BY PROGRAM, IN A SANDBOX (cutbox-rows.mjs): the forced cells as the released guide's own fill.sh prints them over the translation 2a0657c4d2daa26a… (all of the seat's roots in one cut). By AI agents, Wed Nov 11 2026. No macro, syntax, notation, axiom, sorry.
-/
import Derived.Test.YtlbloemmabjmoaaDoorChecked
import GoSem.Claim
import GoSem.ClaimJoined
import GoSem.ClaimMapViews
import Derived.JoinedTies
import Derived.KernelRfl
namespace Go.Proofs.YtlbloemmabjmoaaDoor
/- THE CELL 'sum', in the pinned program and in every row, IS THE sha256 OF THE DUMP (.gsa) THAT YtlbloemmabjmoaaDoorProg.lean LOADS. Nothing in Lean hashes anything: it is a label: what it is worth is what the hold of that sum in a sandbox is worth. -/
noncomputable def Tryd.pinned : Pinned := { name := "ytlbloemmabjmoaadoor", sum := "2a0657c4d2daa26a03496544e80d7e80b4f0f489779188f4f77d06180b5c16fb", checked := Tryd.checked }
namespace Rows
def none {H : Type} : Left H := { results := [], args := [] }

/- WHAT THE LISTED PACKAGE-LEVEL VARIABLES READ AS WHEN THE CALL BEGINS. Each datum BY PROGRAM (the guide's laid-datum.mjs) off the statement by which the dump's own 'gosem.cut.vars' lays the variable. In a bare row this is a premise. The card (YtlbloemmabjmoaaDoorCards.lean) ties it to the program's text. -/
def laid_loop_example_g01543_impl_keywords {H : Type} : DataW H := .agg [.lit (.string [66, 69, 71, 73, 78]), .lit (.string [69, 78, 68]), .lit (.string [102, 117, 110, 99, 116, 105, 111, 110]), .lit (.string [105, 102]), .lit (.string [101, 108, 115, 101]), .lit (.string [119, 104, 105, 108, 101]), .lit (.string [102, 111, 114]), .lit (.string [100, 111]), .lit (.string [98, 114, 101, 97, 107]), .lit (.string [99, 111, 110, 116, 105, 110, 117, 101]), .lit (.string [110, 101, 120, 116]), .lit (.string [101, 120, 105, 116]), .lit (.string [114, 101, 116, 117, 114, 110]), .lit (.string [100, 101, 108, 101, 116, 101]), .lit (.string [105, 110]), .lit (.string [112, 114, 105, 110, 116]), .lit (.string [112, 114, 105, 110, 116, 102])]
def laid_loop_example_g01543_impl_operators {H : Type} : DataW H := .agg [.lit (.string [123]), .lit (.string [125]), .lit (.string [40]), .lit (.string [41]), .lit (.string [91]), .lit (.string [93]), .lit (.string [44]), .lit (.string [59]), .lit (.string [43, 61]), .lit (.string [45, 61]), .lit (.string [42, 61]), .lit (.string [47, 61]), .lit (.string [37, 61]), .lit (.string [94, 61]), .lit (.string [124, 124]), .lit (.string [38, 38]), .lit (.string [33, 126]), .lit (.string [61, 61]), .lit (.string [60, 61]), .lit (.string [62, 61]), .lit (.string [33, 61]), .lit (.string [43, 43]), .lit (.string [45, 45]), .lit (.string [62, 62]), .lit (.string [61]), .lit (.string [43]), .lit (.string [45]), .lit (.string [42]), .lit (.string [47]), .lit (.string [37]), .lit (.string [94]), .lit (.string [33]), .lit (.string [62]), .lit (.string [60]), .lit (.string [124]), .lit (.string [63]), .lit (.string [58]), .lit (.string [126]), .lit (.string [36])]

/-- 'laws.FnRelex': WHATEVER THE INPUT: true; the input reads as it did. -/
def fnRelexSpec : ChangeSpec := { name := "fnRelex", vars := ["loop.example/g01543/impl.keywords", "loop.example/g01543/impl.operators"], fn := fun _ => fun
  | [d, g1, g2] => { results := [.lit (.bool true)], args := [d], vars := [g1, g2] }
  | _ => none }
def fnRelexRow : OpenClaim := { program := "ytlbloemmabjmoaadoor", sum := "2a0657c4d2daa26a03496544e80d7e80b4f0f489779188f4f77d06180b5c16fb", func := "loop.example/g01543/laws.FnRelex", spec := "fnRelex", inPlace := ["internal/abi.NoEscape", "internal/bytealg.IndexByteString", "internal/bytealg.IndexString"], named := ["loop.example/g01543/impl.keywords", "loop.example/g01543/impl.operators", "internal/bytealg.MaxLen"], apart := false, laid := [("loop.example/g01543/impl.keywords", laid_loop_example_g01543_impl_keywords), ("loop.example/g01543/impl.operators", laid_loop_example_g01543_impl_operators)] }
def FnRelexSaid : Prop := fnRelexRow.holds Tryd.pinned (OpenSpec.ofChange fnRelexSpec)

/-- ITS FALSE NEIGHBOUR: 'it returns false'. Refute it at one input. -/
def fnRelexWrong : ChangeSpec := { name := "fnRelex", vars := ["loop.example/g01543/impl.keywords", "loop.example/g01543/impl.operators"], fn := fun _ => fun
  | [d, g1, g2] => { results := [.lit (.bool false)], args := [d], vars := [g1, g2] }
  | _ => none }
def FnRelexWrongFalsely : Prop := fnRelexRow.holds Tryd.pinned (OpenSpec.ofChange fnRelexWrong)

/-- 'laws.FnPlaces': WHATEVER THE INPUT: true; the input reads as it did. -/
def fnPlacesSpec : ChangeSpec := { name := "fnPlaces", vars := ["loop.example/g01543/impl.keywords", "loop.example/g01543/impl.operators"], fn := fun _ => fun
  | [d, g1, g2] => { results := [.lit (.bool true)], args := [d], vars := [g1, g2] }
  | _ => none }
def fnPlacesRow : OpenClaim := { program := "ytlbloemmabjmoaadoor", sum := "2a0657c4d2daa26a03496544e80d7e80b4f0f489779188f4f77d06180b5c16fb", func := "loop.example/g01543/laws.FnPlaces", spec := "fnPlaces", inPlace := ["internal/bytealg.IndexByteString", "internal/bytealg.IndexString"], named := ["loop.example/g01543/impl.keywords", "loop.example/g01543/impl.operators", "internal/bytealg.MaxLen"], apart := false, laid := [("loop.example/g01543/impl.keywords", laid_loop_example_g01543_impl_keywords), ("loop.example/g01543/impl.operators", laid_loop_example_g01543_impl_operators)] }
def FnPlacesSaid : Prop := fnPlacesRow.holds Tryd.pinned (OpenSpec.ofChange fnPlacesSpec)

/-- ITS FALSE NEIGHBOUR: 'it returns false'. Refute it at one input. -/
def fnPlacesWrong : ChangeSpec := { name := "fnPlaces", vars := ["loop.example/g01543/impl.keywords", "loop.example/g01543/impl.operators"], fn := fun _ => fun
  | [d, g1, g2] => { results := [.lit (.bool false)], args := [d], vars := [g1, g2] }
  | _ => none }
def FnPlacesWrongFalsely : Prop := fnPlacesRow.holds Tryd.pinned (OpenSpec.ofChange fnPlacesWrong)

/-- 'laws.FnExactLex': WHATEVER THE INPUT: true; the input reads as it did. -/
def fnExactLexSpec : ChangeSpec := { name := "fnExactLex", vars := ["loop.example/g01543/impl.keywords", "loop.example/g01543/impl.operators"], fn := fun _ => fun
  | [d, g1, g2] => { results := [.lit (.bool true)], args := [d], vars := [g1, g2] }
  | _ => none }
def fnExactLexRow : OpenClaim := { program := "ytlbloemmabjmoaadoor", sum := "2a0657c4d2daa26a03496544e80d7e80b4f0f489779188f4f77d06180b5c16fb", func := "loop.example/g01543/laws.FnExactLex", spec := "fnExactLex", inPlace := ["internal/bytealg.IndexByteString"], named := ["loop.example/g01543/impl.keywords", "loop.example/g01543/impl.operators"], apart := false, laid := [("loop.example/g01543/impl.keywords", laid_loop_example_g01543_impl_keywords), ("loop.example/g01543/impl.operators", laid_loop_example_g01543_impl_operators)] }
def FnExactLexSaid : Prop := fnExactLexRow.holds Tryd.pinned (OpenSpec.ofChange fnExactLexSpec)

/-- ITS FALSE NEIGHBOUR: 'it returns false'. Refute it at one input. -/
def fnExactLexWrong : ChangeSpec := { name := "fnExactLex", vars := ["loop.example/g01543/impl.keywords", "loop.example/g01543/impl.operators"], fn := fun _ => fun
  | [d, g1, g2] => { results := [.lit (.bool false)], args := [d], vars := [g1, g2] }
  | _ => none }
def FnExactLexWrongFalsely : Prop := fnExactLexRow.holds Tryd.pinned (OpenSpec.ofChange fnExactLexWrong)

/-- 'laws.FnExactTokensOk': WHATEVER THE INPUT: true; the input reads as it did. -/
def fnExactTokensOkSpec : ChangeSpec := { name := "fnExactTokensOk", vars := ["loop.example/g01543/impl.keywords", "loop.example/g01543/impl.operators"], fn := fun _ => fun
  | [d, g1, g2] => { results := [.lit (.bool true)], args := [d], vars := [g1, g2] }
  | _ => none }
def fnExactTokensOkRow : OpenClaim := { program := "ytlbloemmabjmoaadoor", sum := "2a0657c4d2daa26a03496544e80d7e80b4f0f489779188f4f77d06180b5c16fb", func := "loop.example/g01543/laws.FnExactTokensOk", spec := "fnExactTokensOk", inPlace := ["internal/bytealg.IndexByteString", "internal/bytealg.IndexString"], named := ["internal/bytealg.MaxLen", "loop.example/g01543/impl.keywords", "loop.example/g01543/impl.operators"], apart := false, laid := [("loop.example/g01543/impl.keywords", laid_loop_example_g01543_impl_keywords), ("loop.example/g01543/impl.operators", laid_loop_example_g01543_impl_operators)] }
def FnExactTokensOkSaid : Prop := fnExactTokensOkRow.holds Tryd.pinned (OpenSpec.ofChange fnExactTokensOkSpec)

/-- ITS FALSE NEIGHBOUR: 'it returns false'. Refute it at one input. -/
def fnExactTokensOkWrong : ChangeSpec := { name := "fnExactTokensOk", vars := ["loop.example/g01543/impl.keywords", "loop.example/g01543/impl.operators"], fn := fun _ => fun
  | [d, g1, g2] => { results := [.lit (.bool false)], args := [d], vars := [g1, g2] }
  | _ => none }
def FnExactTokensOkWrongFalsely : Prop := fnExactTokensOkRow.holds Tryd.pinned (OpenSpec.ofChange fnExactTokensOkWrong)

/-- 'laws.FnExactNeedsGap': WHATEVER THE INPUT: true; the input reads as it did. -/
def fnExactNeedsGapSpec : ChangeSpec := { name := "fnExactNeedsGap", vars := ["loop.example/g01543/impl.keywords", "loop.example/g01543/impl.operators"], fn := fun _ => fun
  | [d1, d2, g1, g2] => { results := [.lit (.bool true)], args := [d1, d2], vars := [g1, g2] }
  | _ => none }
def fnExactNeedsGapRow : OpenClaim := { program := "ytlbloemmabjmoaadoor", sum := "2a0657c4d2daa26a03496544e80d7e80b4f0f489779188f4f77d06180b5c16fb", func := "loop.example/g01543/laws.FnExactNeedsGap", spec := "fnExactNeedsGap", named := ["loop.example/g01543/impl.keywords", "loop.example/g01543/impl.operators"], apart := false, laid := [("loop.example/g01543/impl.keywords", laid_loop_example_g01543_impl_keywords), ("loop.example/g01543/impl.operators", laid_loop_example_g01543_impl_operators)] }
def FnExactNeedsGapSaid : Prop := fnExactNeedsGapRow.holds Tryd.pinned (OpenSpec.ofChange fnExactNeedsGapSpec)

/-- ITS FALSE NEIGHBOUR: 'it returns false'. Refute it at one input. -/
def fnExactNeedsGapWrong : ChangeSpec := { name := "fnExactNeedsGap", vars := ["loop.example/g01543/impl.keywords", "loop.example/g01543/impl.operators"], fn := fun _ => fun
  | [d1, d2, g1, g2] => { results := [.lit (.bool false)], args := [d1, d2], vars := [g1, g2] }
  | _ => none }
def FnExactNeedsGapWrongFalsely : Prop := fnExactNeedsGapRow.holds Tryd.pinned (OpenSpec.ofChange fnExactNeedsGapWrong)

/-- 'laws.FnExactSpell': WHATEVER THE INPUT: true; the input reads as it did. -/
def fnExactSpellSpec : ChangeSpec := { name := "fnExactSpell", vars := ["loop.example/g01543/impl.keywords", "loop.example/g01543/impl.operators"], fn := fun _ => fun
  | [d, g1, g2] => { results := [.lit (.bool true)], args := [d], vars := [g1, g2] }
  | _ => none }
def fnExactSpellRow : OpenClaim := { program := "ytlbloemmabjmoaadoor", sum := "2a0657c4d2daa26a03496544e80d7e80b4f0f489779188f4f77d06180b5c16fb", func := "loop.example/g01543/laws.FnExactSpell", spec := "fnExactSpell", inPlace := ["internal/abi.NoEscape"], named := ["loop.example/g01543/impl.keywords", "loop.example/g01543/impl.operators"], apart := false, laid := [("loop.example/g01543/impl.keywords", laid_loop_example_g01543_impl_keywords), ("loop.example/g01543/impl.operators", laid_loop_example_g01543_impl_operators)] }
def FnExactSpellSaid : Prop := fnExactSpellRow.holds Tryd.pinned (OpenSpec.ofChange fnExactSpellSpec)

/-- ITS FALSE NEIGHBOUR: 'it returns false'. Refute it at one input. -/
def fnExactSpellWrong : ChangeSpec := { name := "fnExactSpell", vars := ["loop.example/g01543/impl.keywords", "loop.example/g01543/impl.operators"], fn := fun _ => fun
  | [d, g1, g2] => { results := [.lit (.bool false)], args := [d], vars := [g1, g2] }
  | _ => none }
def FnExactSpellWrongFalsely : Prop := fnExactSpellRow.holds Tryd.pinned (OpenSpec.ofChange fnExactSpellWrong)

/- THE SECOND FORM. 'bulk': how many values and letters a reading holds, each counted each time it is reached (what is shared counts as often as it is met; a slice's spare places count too). A statement '..UptoSaid' is the law's where the arguments, and the package variables that the reading takes, are together of bulk at most 1048576: NARROWER than '..Said'. Prove '..Said' where nothing that the law and all that it calls make is longer than what came in: it says more and counts as full. Else prove '..UptoSaid'. A law counts once. -/
mutual
def uptoBulk {H : Type} : DataW H → Nat
  | .lit (.string bytes) => bytes.length + 1
  | .lit _ => 1
  | .nil => 1
  | .ptr d => uptoBulk d + 1
  | .slice elems spare => uptoBulkAll elems + uptoBulkAll spare + 1
  | .agg parts => uptoBulkAll parts + 1
  | .iface _ d => uptoBulk d + 1
  | .map entries => uptoBulkEntries entries + 1
  | .held _ => 1
def uptoBulkAll {H : Type} : List (DataW H) → Nat
  | [] => 0
  | d :: r => uptoBulk d + uptoBulkAll r
def uptoBulkEntries {H : Type} : List (Lit × DataW H) → Nat
  | [] => 0
  | x :: r => uptoBulkEntry x + uptoBulkEntries r
def uptoBulkEntry {H : Type} : Lit × DataW H → Nat
  | (.string bytes, d) => bytes.length + uptoBulk d + 1
  | (_, d) => uptoBulk d + 1
 end
def uptoSmall : (H : Type) → List (DataW H) → Bool := fun _ ds => decide (uptoBulkAll ds ≤ 1048576)
def OpenSpec.upto (s : _root_.Go.ChangeSpec) : _root_.Go.OpenSpec := { _root_.Go.OpenSpec.ofChange s with cond := some uptoSmall }

/-- 'laws.FnRelex', WHERE WHAT IT READS IS OF BULK AT MOST 1048576: true; the input reads as it did. -/
def fnRelexUptoRow : OpenClaim := { program := "ytlbloemmabjmoaadoor", sum := "2a0657c4d2daa26a03496544e80d7e80b4f0f489779188f4f77d06180b5c16fb", func := "loop.example/g01543/laws.FnRelex", spec := "fnRelex", inPlace := ["internal/abi.NoEscape", "internal/bytealg.IndexByteString", "internal/bytealg.IndexString"], named := ["loop.example/g01543/impl.keywords", "loop.example/g01543/impl.operators", "internal/bytealg.MaxLen"], apart := false, laid := [("loop.example/g01543/impl.keywords", laid_loop_example_g01543_impl_keywords), ("loop.example/g01543/impl.operators", laid_loop_example_g01543_impl_operators)], narrowed := true }
def FnRelexUptoSaid : Prop := fnRelexUptoRow.holds Tryd.pinned (OpenSpec.upto fnRelexSpec)

/-- 'laws.FnPlaces', WHERE WHAT IT READS IS OF BULK AT MOST 1048576: true; the input reads as it did. -/
def fnPlacesUptoRow : OpenClaim := { program := "ytlbloemmabjmoaadoor", sum := "2a0657c4d2daa26a03496544e80d7e80b4f0f489779188f4f77d06180b5c16fb", func := "loop.example/g01543/laws.FnPlaces", spec := "fnPlaces", inPlace := ["internal/bytealg.IndexByteString", "internal/bytealg.IndexString"], named := ["loop.example/g01543/impl.keywords", "loop.example/g01543/impl.operators", "internal/bytealg.MaxLen"], apart := false, laid := [("loop.example/g01543/impl.keywords", laid_loop_example_g01543_impl_keywords), ("loop.example/g01543/impl.operators", laid_loop_example_g01543_impl_operators)], narrowed := true }
def FnPlacesUptoSaid : Prop := fnPlacesUptoRow.holds Tryd.pinned (OpenSpec.upto fnPlacesSpec)

/-- 'laws.FnExactLex', WHERE WHAT IT READS IS OF BULK AT MOST 1048576: true; the input reads as it did. -/
def fnExactLexUptoRow : OpenClaim := { program := "ytlbloemmabjmoaadoor", sum := "2a0657c4d2daa26a03496544e80d7e80b4f0f489779188f4f77d06180b5c16fb", func := "loop.example/g01543/laws.FnExactLex", spec := "fnExactLex", inPlace := ["internal/bytealg.IndexByteString"], named := ["loop.example/g01543/impl.keywords", "loop.example/g01543/impl.operators"], apart := false, laid := [("loop.example/g01543/impl.keywords", laid_loop_example_g01543_impl_keywords), ("loop.example/g01543/impl.operators", laid_loop_example_g01543_impl_operators)], narrowed := true }
def FnExactLexUptoSaid : Prop := fnExactLexUptoRow.holds Tryd.pinned (OpenSpec.upto fnExactLexSpec)

/-- 'laws.FnExactTokensOk', WHERE WHAT IT READS IS OF BULK AT MOST 1048576: true; the input reads as it did. -/
def fnExactTokensOkUptoRow : OpenClaim := { program := "ytlbloemmabjmoaadoor", sum := "2a0657c4d2daa26a03496544e80d7e80b4f0f489779188f4f77d06180b5c16fb", func := "loop.example/g01543/laws.FnExactTokensOk", spec := "fnExactTokensOk", inPlace := ["internal/bytealg.IndexByteString", "internal/bytealg.IndexString"], named := ["internal/bytealg.MaxLen", "loop.example/g01543/impl.keywords", "loop.example/g01543/impl.operators"], apart := false, laid := [("loop.example/g01543/impl.keywords", laid_loop_example_g01543_impl_keywords), ("loop.example/g01543/impl.operators", laid_loop_example_g01543_impl_operators)], narrowed := true }
def FnExactTokensOkUptoSaid : Prop := fnExactTokensOkUptoRow.holds Tryd.pinned (OpenSpec.upto fnExactTokensOkSpec)

/-- 'laws.FnExactNeedsGap', WHERE WHAT IT READS IS OF BULK AT MOST 1048576: true; the input reads as it did. -/
def fnExactNeedsGapUptoRow : OpenClaim := { program := "ytlbloemmabjmoaadoor", sum := "2a0657c4d2daa26a03496544e80d7e80b4f0f489779188f4f77d06180b5c16fb", func := "loop.example/g01543/laws.FnExactNeedsGap", spec := "fnExactNeedsGap", named := ["loop.example/g01543/impl.keywords", "loop.example/g01543/impl.operators"], apart := false, laid := [("loop.example/g01543/impl.keywords", laid_loop_example_g01543_impl_keywords), ("loop.example/g01543/impl.operators", laid_loop_example_g01543_impl_operators)], narrowed := true }
def FnExactNeedsGapUptoSaid : Prop := fnExactNeedsGapUptoRow.holds Tryd.pinned (OpenSpec.upto fnExactNeedsGapSpec)

/-- 'laws.FnExactSpell', WHERE WHAT IT READS IS OF BULK AT MOST 1048576: true; the input reads as it did. -/
def fnExactSpellUptoRow : OpenClaim := { program := "ytlbloemmabjmoaadoor", sum := "2a0657c4d2daa26a03496544e80d7e80b4f0f489779188f4f77d06180b5c16fb", func := "loop.example/g01543/laws.FnExactSpell", spec := "fnExactSpell", inPlace := ["internal/abi.NoEscape"], named := ["loop.example/g01543/impl.keywords", "loop.example/g01543/impl.operators"], apart := false, laid := [("loop.example/g01543/impl.keywords", laid_loop_example_g01543_impl_keywords), ("loop.example/g01543/impl.operators", laid_loop_example_g01543_impl_operators)], narrowed := true }
def FnExactSpellUptoSaid : Prop := fnExactSpellUptoRow.holds Tryd.pinned (OpenSpec.upto fnExactSpellSpec)

end Rows
end Go.Proofs.YtlbloemmabjmoaaDoor
