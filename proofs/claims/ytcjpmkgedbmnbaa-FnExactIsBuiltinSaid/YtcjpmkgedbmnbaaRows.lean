/-
  No cell of these rows narrows 'for every input' (looked for: loops, veiled, ifaces, maps, wideKeys, modest, calm, conditions, laid).
  DERIVED. THE GIVEN ROWS OF THIS SEAT. 3 by the template 'for every input the law returns true; each argument reads behind the call as it read before'; 0 by the template 'total and deterministic' (their statements: YtcjpmkgedbmnbaaTotals.lean).
  GIVEN WITH THE SEED: the statements are not yours to turn. If you find one false, say at which input.
  Laid BY PROGRAM, IN A SANDBOX (cutbox-rows.mjs): the forced cells as the released guide's own fill.sh prints them over the translation d9c812b8482cd94f… (all of the seat's roots in one cut). By AI agents, Wed Nov 11 2026. No macro, syntax, notation, axiom, sorry.
-/
import Derived.Test.YtcjpmkgedbmnbaaChecked
import GoSem.Claim
import GoSem.ClaimJoined
import GoSem.ClaimMapViews
import Derived.JoinedTies
import Derived.KernelRfl
namespace Go.Proofs.Ytcjpmkgedbmnbaa
/- THE CELL 'sum', in the pinned program and in every row, IS THE sha256 OF THE DUMP (.gsa) THAT YtcjpmkgedbmnbaaProg.lean LOADS. Nothing in Lean hashes anything: it is a label: what it is worth is what the hold of that sum in a sandbox is worth. -/
noncomputable def Try.pinned : Pinned := { name := "ytcjpmkgedbmnbaa", sum := "d9c812b8482cd94fc562f97d506c3ba1c9a953004765a8789dc1db9f45a1a53a", checked := Try.checked }
namespace Rows
def none {H : Type} : Left H := { results := [], args := [] }

/-- 'laws.FnExactIsBuiltin': WHATEVER THE INPUT: true; the input reads as it did. -/
def fnExactIsBuiltinSpec : ChangeSpec := { name := "fnExactIsBuiltin", fn := fun _ => fun
  | [d] => { results := [.lit (.bool true)], args := [d] }
  | _ => none }
def fnExactIsBuiltinRow : OpenClaim := { program := "ytcjpmkgedbmnbaa", sum := "d9c812b8482cd94fc562f97d506c3ba1c9a953004765a8789dc1db9f45a1a53a", func := "loop.example/g01543/laws.FnExactIsBuiltin", spec := "fnExactIsBuiltin", apart := false }
def FnExactIsBuiltinSaid : Prop := fnExactIsBuiltinRow.holds Try.pinned (OpenSpec.ofChange fnExactIsBuiltinSpec)

/-- ITS FALSE NEIGHBOUR: 'it returns false'. Refute it at one input. -/
def fnExactIsBuiltinWrong : ChangeSpec := { name := "fnExactIsBuiltin", fn := fun _ => fun
  | [d] => { results := [.lit (.bool false)], args := [d] }
  | _ => none }
def FnExactIsBuiltinWrongFalsely : Prop := fnExactIsBuiltinRow.holds Try.pinned (OpenSpec.ofChange fnExactIsBuiltinWrong)

/-- 'laws.FnExactEndsOperand': WHATEVER THE INPUT: true; the input reads as it did. -/
def fnExactEndsOperandSpec : ChangeSpec := { name := "fnExactEndsOperand", fn := fun _ => fun
  | [d] => { results := [.lit (.bool true)], args := [d] }
  | _ => none }
def fnExactEndsOperandRow : OpenClaim := { program := "ytcjpmkgedbmnbaa", sum := "d9c812b8482cd94fc562f97d506c3ba1c9a953004765a8789dc1db9f45a1a53a", func := "loop.example/g01543/laws.FnExactEndsOperand", spec := "fnExactEndsOperand", apart := false }
def FnExactEndsOperandSaid : Prop := fnExactEndsOperandRow.holds Try.pinned (OpenSpec.ofChange fnExactEndsOperandSpec)

/-- ITS FALSE NEIGHBOUR: 'it returns false'. Refute it at one input. -/
def fnExactEndsOperandWrong : ChangeSpec := { name := "fnExactEndsOperand", fn := fun _ => fun
  | [d] => { results := [.lit (.bool false)], args := [d] }
  | _ => none }
def FnExactEndsOperandWrongFalsely : Prop := fnExactEndsOperandRow.holds Try.pinned (OpenSpec.ofChange fnExactEndsOperandWrong)

/-- 'laws.FnExactBeginsOperand': WHATEVER THE INPUT: true; the input reads as it did. -/
def fnExactBeginsOperandSpec : ChangeSpec := { name := "fnExactBeginsOperand", fn := fun _ => fun
  | [d] => { results := [.lit (.bool true)], args := [d] }
  | _ => none }
def fnExactBeginsOperandRow : OpenClaim := { program := "ytcjpmkgedbmnbaa", sum := "d9c812b8482cd94fc562f97d506c3ba1c9a953004765a8789dc1db9f45a1a53a", func := "loop.example/g01543/laws.FnExactBeginsOperand", spec := "fnExactBeginsOperand", apart := false }
def FnExactBeginsOperandSaid : Prop := fnExactBeginsOperandRow.holds Try.pinned (OpenSpec.ofChange fnExactBeginsOperandSpec)

/-- ITS FALSE NEIGHBOUR: 'it returns false'. Refute it at one input. -/
def fnExactBeginsOperandWrong : ChangeSpec := { name := "fnExactBeginsOperand", fn := fun _ => fun
  | [d] => { results := [.lit (.bool false)], args := [d] }
  | _ => none }
def FnExactBeginsOperandWrongFalsely : Prop := fnExactBeginsOperandRow.holds Try.pinned (OpenSpec.ofChange fnExactBeginsOperandWrong)

/- THE SECOND FORM. 'bulk': how many values and letters a reading holds, each counted each time it is reached (what is shared counts as often as it is met; a slice's spare places count too). A statement '..UptoSaid' is the law's where the arguments, and the package variables that the reading takes, are together of bulk at most 1048576: NARROWER than '..Said'. Prove '..Said' where nothing that the law and all that it calls make is longer than what came in: it says more and counts as full. Else prove '..UptoSaid'. A law counts once. -/
mutual
def uptoBulk {H : Type} : DataW H → Nat
  | .lit (.string bytes) => bytes.length + 1
  | .lit _ => 1
  | .nil => 1
  | .ptr d => uptoBulk d + 1
  | .slice elems spare => uptoBulkAll elems + uptoBulkAll spare + 1
  | .agg parts => uptoBulkAll parts + 1
  | .iface _ d => uptoBulk d + 1
  | .map entries => uptoBulkEntries entries + 1
  | .held _ => 1
def uptoBulkAll {H : Type} : List (DataW H) → Nat
  | [] => 0
  | d :: r => uptoBulk d + uptoBulkAll r
def uptoBulkEntries {H : Type} : List (Lit × DataW H) → Nat
  | [] => 0
  | x :: r => uptoBulkEntry x + uptoBulkEntries r
def uptoBulkEntry {H : Type} : Lit × DataW H → Nat
  | (.string bytes, d) => bytes.length + uptoBulk d + 1
  | (_, d) => uptoBulk d + 1
 end
def uptoSmall : (H : Type) → List (DataW H) → Bool := fun _ ds => decide (uptoBulkAll ds ≤ 1048576)
def OpenSpec.upto (s : _root_.Go.ChangeSpec) : _root_.Go.OpenSpec := { _root_.Go.OpenSpec.ofChange s with cond := some uptoSmall }

/-- 'laws.FnExactIsBuiltin', WHERE WHAT IT READS IS OF BULK AT MOST 1048576: true; the input reads as it did. -/
def fnExactIsBuiltinUptoRow : OpenClaim := { program := "ytcjpmkgedbmnbaa", sum := "d9c812b8482cd94fc562f97d506c3ba1c9a953004765a8789dc1db9f45a1a53a", func := "loop.example/g01543/laws.FnExactIsBuiltin", spec := "fnExactIsBuiltin", apart := false, narrowed := true }
def FnExactIsBuiltinUptoSaid : Prop := fnExactIsBuiltinUptoRow.holds Try.pinned (OpenSpec.upto fnExactIsBuiltinSpec)

/-- 'laws.FnExactEndsOperand', WHERE WHAT IT READS IS OF BULK AT MOST 1048576: true; the input reads as it did. -/
def fnExactEndsOperandUptoRow : OpenClaim := { program := "ytcjpmkgedbmnbaa", sum := "d9c812b8482cd94fc562f97d506c3ba1c9a953004765a8789dc1db9f45a1a53a", func := "loop.example/g01543/laws.FnExactEndsOperand", spec := "fnExactEndsOperand", apart := false, narrowed := true }
def FnExactEndsOperandUptoSaid : Prop := fnExactEndsOperandUptoRow.holds Try.pinned (OpenSpec.upto fnExactEndsOperandSpec)

/-- 'laws.FnExactBeginsOperand', WHERE WHAT IT READS IS OF BULK AT MOST 1048576: true; the input reads as it did. -/
def fnExactBeginsOperandUptoRow : OpenClaim := { program := "ytcjpmkgedbmnbaa", sum := "d9c812b8482cd94fc562f97d506c3ba1c9a953004765a8789dc1db9f45a1a53a", func := "loop.example/g01543/laws.FnExactBeginsOperand", spec := "fnExactBeginsOperand", apart := false, narrowed := true }
def FnExactBeginsOperandUptoSaid : Prop := fnExactBeginsOperandUptoRow.holds Try.pinned (OpenSpec.upto fnExactBeginsOperandSpec)

end Rows
end Go.Proofs.Ytcjpmkgedbmnbaa
