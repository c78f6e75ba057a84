/-
  No cell of these rows narrows 'for every input' (looked for: loops, veiled, ifaces, maps, wideKeys, modest, calm, conditions, laid).
  DERIVED. THE GIVEN ROWS OF THIS SEAT. 5 by the template 'for every input the law returns true; each argument reads behind the call as it read before'; 0 by the template 'total and deterministic' (their statements: YtihhnggcgkhffaaTotals.lean).
  GIVEN WITH THE SEED: the statements are not yours to turn. If you find one false, say at which input.
  Laid BY PROGRAM, IN A SANDBOX (cutbox-rows.mjs): the forced cells as the released guide's own fill.sh prints them over the translation 818b5f8cb74d0dec… (all of the seat's roots in one cut). By AI agents, Wed Nov 11 2026. No macro, syntax, notation, axiom, sorry.
-/
import Derived.Test.YtihhnggcgkhffaaChecked
import GoSem.Claim
import GoSem.ClaimJoined
import GoSem.ClaimMapViews
import Derived.JoinedTies
import Derived.KernelRfl
namespace Go.Proofs.Ytihhnggcgkhffaa
/- THE CELL 'sum', in the pinned program and in every row, IS THE sha256 OF THE DUMP (.gsa) THAT YtihhnggcgkhffaaProg.lean LOADS. Nothing in Lean hashes anything: it is a label: what it is worth is what the hold of that sum in a sandbox is worth. -/
noncomputable def Try.pinned : Pinned := { name := "ytihhnggcgkhffaa", sum := "818b5f8cb74d0decfc7aa92f46cd345aa2bb1f7fe07fa4e8e6ebd83207f09441", checked := Try.checked }
namespace Rows
def none {H : Type} : Left H := { results := [], args := [] }

/-- 'laws.FnExactIsLetter': WHATEVER THE INPUT: true; the input reads as it did. -/
def fnExactIsLetterSpec : ChangeSpec := { name := "fnExactIsLetter", fn := fun _ => fun
  | [d] => { results := [.lit (.bool true)], args := [d] }
  | _ => none }
def fnExactIsLetterRow : OpenClaim := { program := "ytihhnggcgkhffaa", sum := "818b5f8cb74d0decfc7aa92f46cd345aa2bb1f7fe07fa4e8e6ebd83207f09441", func := "loop.example/g01543/laws.FnExactIsLetter", spec := "fnExactIsLetter", apart := false }
def FnExactIsLetterSaid : Prop := fnExactIsLetterRow.holds Try.pinned (OpenSpec.ofChange fnExactIsLetterSpec)

/-- ITS FALSE NEIGHBOUR: 'it returns false'. Refute it at one input. -/
def fnExactIsLetterWrong : ChangeSpec := { name := "fnExactIsLetter", fn := fun _ => fun
  | [d] => { results := [.lit (.bool false)], args := [d] }
  | _ => none }
def FnExactIsLetterWrongFalsely : Prop := fnExactIsLetterRow.holds Try.pinned (OpenSpec.ofChange fnExactIsLetterWrong)

/-- 'laws.FnExactIsDigit': WHATEVER THE INPUT: true; the input reads as it did. -/
def fnExactIsDigitSpec : ChangeSpec := { name := "fnExactIsDigit", fn := fun _ => fun
  | [d] => { results := [.lit (.bool true)], args := [d] }
  | _ => none }
def fnExactIsDigitRow : OpenClaim := { program := "ytihhnggcgkhffaa", sum := "818b5f8cb74d0decfc7aa92f46cd345aa2bb1f7fe07fa4e8e6ebd83207f09441", func := "loop.example/g01543/laws.FnExactIsDigit", spec := "fnExactIsDigit", apart := false }
def FnExactIsDigitSaid : Prop := fnExactIsDigitRow.holds Try.pinned (OpenSpec.ofChange fnExactIsDigitSpec)

/-- ITS FALSE NEIGHBOUR: 'it returns false'. Refute it at one input. -/
def fnExactIsDigitWrong : ChangeSpec := { name := "fnExactIsDigit", fn := fun _ => fun
  | [d] => { results := [.lit (.bool false)], args := [d] }
  | _ => none }
def FnExactIsDigitWrongFalsely : Prop := fnExactIsDigitRow.holds Try.pinned (OpenSpec.ofChange fnExactIsDigitWrong)

/-- 'laws.FnExactIsBlank': WHATEVER THE INPUT: true; the input reads as it did. -/
def fnExactIsBlankSpec : ChangeSpec := { name := "fnExactIsBlank", fn := fun _ => fun
  | [d] => { results := [.lit (.bool true)], args := [d] }
  | _ => none }
def fnExactIsBlankRow : OpenClaim := { program := "ytihhnggcgkhffaa", sum := "818b5f8cb74d0decfc7aa92f46cd345aa2bb1f7fe07fa4e8e6ebd83207f09441", func := "loop.example/g01543/laws.FnExactIsBlank", spec := "fnExactIsBlank", apart := false }
def FnExactIsBlankSaid : Prop := fnExactIsBlankRow.holds Try.pinned (OpenSpec.ofChange fnExactIsBlankSpec)

/-- ITS FALSE NEIGHBOUR: 'it returns false'. Refute it at one input. -/
def fnExactIsBlankWrong : ChangeSpec := { name := "fnExactIsBlank", fn := fun _ => fun
  | [d] => { results := [.lit (.bool false)], args := [d] }
  | _ => none }
def FnExactIsBlankWrongFalsely : Prop := fnExactIsBlankRow.holds Try.pinned (OpenSpec.ofChange fnExactIsBlankWrong)

/-- 'laws.FnExactIsWordByte': WHATEVER THE INPUT: true; the input reads as it did. -/
def fnExactIsWordByteSpec : ChangeSpec := { name := "fnExactIsWordByte", fn := fun _ => fun
  | [d] => { results := [.lit (.bool true)], args := [d] }
  | _ => none }
def fnExactIsWordByteRow : OpenClaim := { program := "ytihhnggcgkhffaa", sum := "818b5f8cb74d0decfc7aa92f46cd345aa2bb1f7fe07fa4e8e6ebd83207f09441", func := "loop.example/g01543/laws.FnExactIsWordByte", spec := "fnExactIsWordByte", apart := false }
def FnExactIsWordByteSaid : Prop := fnExactIsWordByteRow.holds Try.pinned (OpenSpec.ofChange fnExactIsWordByteSpec)

/-- ITS FALSE NEIGHBOUR: 'it returns false'. Refute it at one input. -/
def fnExactIsWordByteWrong : ChangeSpec := { name := "fnExactIsWordByte", fn := fun _ => fun
  | [d] => { results := [.lit (.bool false)], args := [d] }
  | _ => none }
def FnExactIsWordByteWrongFalsely : Prop := fnExactIsWordByteRow.holds Try.pinned (OpenSpec.ofChange fnExactIsWordByteWrong)

/-- 'laws.FnExactNameShape': WHATEVER THE INPUT: true; the input reads as it did. -/
def fnExactNameShapeSpec : ChangeSpec := { name := "fnExactNameShape", fn := fun _ => fun
  | [d] => { results := [.lit (.bool true)], args := [d] }
  | _ => none }
def fnExactNameShapeRow : OpenClaim := { program := "ytihhnggcgkhffaa", sum := "818b5f8cb74d0decfc7aa92f46cd345aa2bb1f7fe07fa4e8e6ebd83207f09441", func := "loop.example/g01543/laws.FnExactNameShape", spec := "fnExactNameShape", apart := false }
def FnExactNameShapeSaid : Prop := fnExactNameShapeRow.holds Try.pinned (OpenSpec.ofChange fnExactNameShapeSpec)

/-- ITS FALSE NEIGHBOUR: 'it returns false'. Refute it at one input. -/
def fnExactNameShapeWrong : ChangeSpec := { name := "fnExactNameShape", fn := fun _ => fun
  | [d] => { results := [.lit (.bool false)], args := [d] }
  | _ => none }
def FnExactNameShapeWrongFalsely : Prop := fnExactNameShapeRow.holds Try.pinned (OpenSpec.ofChange fnExactNameShapeWrong)

/- THE SECOND FORM. 'bulk': how many values and letters a reading holds, each counted each time it is reached (what is shared counts as often as it is met; a slice's spare places count too). A statement '..UptoSaid' is the law's where the arguments, and the package variables that the reading takes, are together of bulk at most 1048576: NARROWER than '..Said'. Prove '..Said' where nothing that the law and all that it calls make is longer than what came in: it says more and counts as full. Else prove '..UptoSaid'. A law counts once. -/
mutual
def uptoBulk {H : Type} : DataW H → Nat
  | .lit (.string bytes) => bytes.length + 1
  | .lit _ => 1
  | .nil => 1
  | .ptr d => uptoBulk d + 1
  | .slice elems spare => uptoBulkAll elems + uptoBulkAll spare + 1
  | .agg parts => uptoBulkAll parts + 1
  | .iface _ d => uptoBulk d + 1
  | .map entries => uptoBulkEntries entries + 1
  | .held _ => 1
def uptoBulkAll {H : Type} : List (DataW H) → Nat
  | [] => 0
  | d :: r => uptoBulk d + uptoBulkAll r
def uptoBulkEntries {H : Type} : List (Lit × DataW H) → Nat
  | [] => 0
  | x :: r => uptoBulkEntry x + uptoBulkEntries r
def uptoBulkEntry {H : Type} : Lit × DataW H → Nat
  | (.string bytes, d) => bytes.length + uptoBulk d + 1
  | (_, d) => uptoBulk d + 1
 end
def uptoSmall : (H : Type) → List (DataW H) → Bool := fun _ ds => decide (uptoBulkAll ds ≤ 1048576)
def OpenSpec.upto (s : _root_.Go.ChangeSpec) : _root_.Go.OpenSpec := { _root_.Go.OpenSpec.ofChange s with cond := some uptoSmall }

/-- 'laws.FnExactIsLetter', WHERE WHAT IT READS IS OF BULK AT MOST 1048576: true; the input reads as it did. -/
def fnExactIsLetterUptoRow : OpenClaim := { program := "ytihhnggcgkhffaa", sum := "818b5f8cb74d0decfc7aa92f46cd345aa2bb1f7fe07fa4e8e6ebd83207f09441", func := "loop.example/g01543/laws.FnExactIsLetter", spec := "fnExactIsLetter", apart := false, narrowed := true }
def FnExactIsLetterUptoSaid : Prop := fnExactIsLetterUptoRow.holds Try.pinned (OpenSpec.upto fnExactIsLetterSpec)

/-- 'laws.FnExactIsDigit', WHERE WHAT IT READS IS OF BULK AT MOST 1048576: true; the input reads as it did. -/
def fnExactIsDigitUptoRow : OpenClaim := { program := "ytihhnggcgkhffaa", sum := "818b5f8cb74d0decfc7aa92f46cd345aa2bb1f7fe07fa4e8e6ebd83207f09441", func := "loop.example/g01543/laws.FnExactIsDigit", spec := "fnExactIsDigit", apart := false, narrowed := true }
def FnExactIsDigitUptoSaid : Prop := fnExactIsDigitUptoRow.holds Try.pinned (OpenSpec.upto fnExactIsDigitSpec)

/-- 'laws.FnExactIsBlank', WHERE WHAT IT READS IS OF BULK AT MOST 1048576: true; the input reads as it did. -/
def fnExactIsBlankUptoRow : OpenClaim := { program := "ytihhnggcgkhffaa", sum := "818b5f8cb74d0decfc7aa92f46cd345aa2bb1f7fe07fa4e8e6ebd83207f09441", func := "loop.example/g01543/laws.FnExactIsBlank", spec := "fnExactIsBlank", apart := false, narrowed := true }
def FnExactIsBlankUptoSaid : Prop := fnExactIsBlankUptoRow.holds Try.pinned (OpenSpec.upto fnExactIsBlankSpec)

/-- 'laws.FnExactIsWordByte', WHERE WHAT IT READS IS OF BULK AT MOST 1048576: true; the input reads as it did. -/
def fnExactIsWordByteUptoRow : OpenClaim := { program := "ytihhnggcgkhffaa", sum := "818b5f8cb74d0decfc7aa92f46cd345aa2bb1f7fe07fa4e8e6ebd83207f09441", func := "loop.example/g01543/laws.FnExactIsWordByte", spec := "fnExactIsWordByte", apart := false, narrowed := true }
def FnExactIsWordByteUptoSaid : Prop := fnExactIsWordByteUptoRow.holds Try.pinned (OpenSpec.upto fnExactIsWordByteSpec)

/-- 'laws.FnExactNameShape', WHERE WHAT IT READS IS OF BULK AT MOST 1048576: true; the input reads as it did. -/
def fnExactNameShapeUptoRow : OpenClaim := { program := "ytihhnggcgkhffaa", sum := "818b5f8cb74d0decfc7aa92f46cd345aa2bb1f7fe07fa4e8e6ebd83207f09441", func := "loop.example/g01543/laws.FnExactNameShape", spec := "fnExactNameShape", apart := false, narrowed := true }
def FnExactNameShapeUptoSaid : Prop := fnExactNameShapeUptoRow.holds Try.pinned (OpenSpec.upto fnExactNameShapeSpec)

end Rows
end Go.Proofs.Ytihhnggcgkhffaa
