/-
  No cell of these rows narrows 'for every input' (looked for: loops, veiled, ifaces, maps, wideKeys, modest, calm, conditions, laid).
  DERIVED. THE GIVEN ROWS OF THIS SEAT. 4 by the template 'for every input the law returns true; each argument reads behind the call as it read before'; 0 by the template 'total and deterministic' (their statements: YtndmaahodccpjaaTotals.lean).
  GIVEN WITH THE SEED: the statements are not yours to turn. If you find one false, say at which input.
  Laid BY PROGRAM, IN A SANDBOX (cutbox-rows.mjs): the forced cells as the released guide's own fill.sh prints them over the translation a8d36bac4ab9fa73… (all of the seat's roots in one cut). By AI agents, Wed Nov 11 2026. No macro, syntax, notation, axiom, sorry.
-/
import Derived.Test.YtndmaahodccpjaaChecked
import GoSem.Claim
import GoSem.ClaimJoined
import GoSem.ClaimMapViews
import Derived.JoinedTies
import Derived.KernelRfl
namespace Go.Proofs.Ytndmaahodccpjaa
/- THE CELL 'sum', in the pinned program and in every row, IS THE sha256 OF THE DUMP (.gsa) THAT YtndmaahodccpjaaProg.lean LOADS. Nothing in Lean hashes anything: it is a label: what it is worth is what the hold of that sum in a sandbox is worth. -/
noncomputable def Try.pinned : Pinned := { name := "ytndmaahodccpjaa", sum := "a8d36bac4ab9fa73a78a68789765cd0ab691748223e527b092f3739b0b1508f3", checked := Try.checked }
namespace Rows
def none {H : Type} : Left H := { results := [], args := [] }

/-- 'laws.FnExactNumEnd': WHATEVER THE INPUT: true; the input reads as it did. -/
def fnExactNumEndSpec : ChangeSpec := { name := "fnExactNumEnd", fn := fun _ => fun
  | [d1, d2] => { results := [.lit (.bool true)], args := [d1, d2] }
  | _ => none }
def fnExactNumEndRow : OpenClaim := { program := "ytndmaahodccpjaa", sum := "a8d36bac4ab9fa73a78a68789765cd0ab691748223e527b092f3739b0b1508f3", func := "loop.example/g01543/laws.FnExactNumEnd", spec := "fnExactNumEnd", apart := false }
def FnExactNumEndSaid : Prop := fnExactNumEndRow.holds Try.pinned (OpenSpec.ofChange fnExactNumEndSpec)

/-- ITS FALSE NEIGHBOUR: 'it returns false'. Refute it at one input. -/
def fnExactNumEndWrong : ChangeSpec := { name := "fnExactNumEnd", fn := fun _ => fun
  | [d1, d2] => { results := [.lit (.bool false)], args := [d1, d2] }
  | _ => none }
def FnExactNumEndWrongFalsely : Prop := fnExactNumEndRow.holds Try.pinned (OpenSpec.ofChange fnExactNumEndWrong)

/-- 'laws.FnExactStrEnd': WHATEVER THE INPUT: true; the input reads as it did. -/
def fnExactStrEndSpec : ChangeSpec := { name := "fnExactStrEnd", fn := fun _ => fun
  | [d1, d2] => { results := [.lit (.bool true)], args := [d1, d2] }
  | _ => none }
def fnExactStrEndRow : OpenClaim := { program := "ytndmaahodccpjaa", sum := "a8d36bac4ab9fa73a78a68789765cd0ab691748223e527b092f3739b0b1508f3", func := "loop.example/g01543/laws.FnExactStrEnd", spec := "fnExactStrEnd", apart := false }
def FnExactStrEndSaid : Prop := fnExactStrEndRow.holds Try.pinned (OpenSpec.ofChange fnExactStrEndSpec)

/-- ITS FALSE NEIGHBOUR: 'it returns false'. Refute it at one input. -/
def fnExactStrEndWrong : ChangeSpec := { name := "fnExactStrEnd", fn := fun _ => fun
  | [d1, d2] => { results := [.lit (.bool false)], args := [d1, d2] }
  | _ => none }
def FnExactStrEndWrongFalsely : Prop := fnExactStrEndRow.holds Try.pinned (OpenSpec.ofChange fnExactStrEndWrong)

/-- 'laws.FnExactEreEnd': WHATEVER THE INPUT: true; the input reads as it did. -/
def fnExactEreEndSpec : ChangeSpec := { name := "fnExactEreEnd", fn := fun _ => fun
  | [d1, d2] => { results := [.lit (.bool true)], args := [d1, d2] }
  | _ => none }
def fnExactEreEndRow : OpenClaim := { program := "ytndmaahodccpjaa", sum := "a8d36bac4ab9fa73a78a68789765cd0ab691748223e527b092f3739b0b1508f3", func := "loop.example/g01543/laws.FnExactEreEnd", spec := "fnExactEreEnd", apart := false }
def FnExactEreEndSaid : Prop := fnExactEreEndRow.holds Try.pinned (OpenSpec.ofChange fnExactEreEndSpec)

/-- ITS FALSE NEIGHBOUR: 'it returns false'. Refute it at one input. -/
def fnExactEreEndWrong : ChangeSpec := { name := "fnExactEreEnd", fn := fun _ => fun
  | [d1, d2] => { results := [.lit (.bool false)], args := [d1, d2] }
  | _ => none }
def FnExactEreEndWrongFalsely : Prop := fnExactEreEndRow.holds Try.pinned (OpenSpec.ofChange fnExactEreEndWrong)

/-- 'laws.FnExactNameEnd': WHATEVER THE INPUT: true; the input reads as it did. -/
def fnExactNameEndSpec : ChangeSpec := { name := "fnExactNameEnd", fn := fun _ => fun
  | [d1, d2] => { results := [.lit (.bool true)], args := [d1, d2] }
  | _ => none }
def fnExactNameEndRow : OpenClaim := { program := "ytndmaahodccpjaa", sum := "a8d36bac4ab9fa73a78a68789765cd0ab691748223e527b092f3739b0b1508f3", func := "loop.example/g01543/laws.FnExactNameEnd", spec := "fnExactNameEnd", apart := false }
def FnExactNameEndSaid : Prop := fnExactNameEndRow.holds Try.pinned (OpenSpec.ofChange fnExactNameEndSpec)

/-- ITS FALSE NEIGHBOUR: 'it returns false'. Refute it at one input. -/
def fnExactNameEndWrong : ChangeSpec := { name := "fnExactNameEnd", fn := fun _ => fun
  | [d1, d2] => { results := [.lit (.bool false)], args := [d1, d2] }
  | _ => none }
def FnExactNameEndWrongFalsely : Prop := fnExactNameEndRow.holds Try.pinned (OpenSpec.ofChange fnExactNameEndWrong)

/- THE SECOND FORM. 'bulk': how many values and letters a reading holds, each counted each time it is reached (what is shared counts as often as it is met; a slice's spare places count too). A statement '..UptoSaid' is the law's where the arguments, and the package variables that the reading takes, are together of bulk at most 1048576: NARROWER than '..Said'. Prove '..Said' where nothing that the law and all that it calls make is longer than what came in: it says more and counts as full. Else prove '..UptoSaid'. A law counts once. -/
mutual
def uptoBulk {H : Type} : DataW H → Nat
  | .lit (.string bytes) => bytes.length + 1
  | .lit _ => 1
  | .nil => 1
  | .ptr d => uptoBulk d + 1
  | .slice elems spare => uptoBulkAll elems + uptoBulkAll spare + 1
  | .agg parts => uptoBulkAll parts + 1
  | .iface _ d => uptoBulk d + 1
  | .map entries => uptoBulkEntries entries + 1
  | .held _ => 1
def uptoBulkAll {H : Type} : List (DataW H) → Nat
  | [] => 0
  | d :: r => uptoBulk d + uptoBulkAll r
def uptoBulkEntries {H : Type} : List (Lit × DataW H) → Nat
  | [] => 0
  | x :: r => uptoBulkEntry x + uptoBulkEntries r
def uptoBulkEntry {H : Type} : Lit × DataW H → Nat
  | (.string bytes, d) => bytes.length + uptoBulk d + 1
  | (_, d) => uptoBulk d + 1
 end
def uptoSmall : (H : Type) → List (DataW H) → Bool := fun _ ds => decide (uptoBulkAll ds ≤ 1048576)
def OpenSpec.upto (s : _root_.Go.ChangeSpec) : _root_.Go.OpenSpec := { _root_.Go.OpenSpec.ofChange s with cond := some uptoSmall }

/-- 'laws.FnExactNumEnd', WHERE WHAT IT READS IS OF BULK AT MOST 1048576: true; the input reads as it did. -/
def fnExactNumEndUptoRow : OpenClaim := { program := "ytndmaahodccpjaa", sum := "a8d36bac4ab9fa73a78a68789765cd0ab691748223e527b092f3739b0b1508f3", func := "loop.example/g01543/laws.FnExactNumEnd", spec := "fnExactNumEnd", apart := false, narrowed := true }
def FnExactNumEndUptoSaid : Prop := fnExactNumEndUptoRow.holds Try.pinned (OpenSpec.upto fnExactNumEndSpec)

/-- 'laws.FnExactStrEnd', WHERE WHAT IT READS IS OF BULK AT MOST 1048576: true; the input reads as it did. -/
def fnExactStrEndUptoRow : OpenClaim := { program := "ytndmaahodccpjaa", sum := "a8d36bac4ab9fa73a78a68789765cd0ab691748223e527b092f3739b0b1508f3", func := "loop.example/g01543/laws.FnExactStrEnd", spec := "fnExactStrEnd", apart := false, narrowed := true }
def FnExactStrEndUptoSaid : Prop := fnExactStrEndUptoRow.holds Try.pinned (OpenSpec.upto fnExactStrEndSpec)

/-- 'laws.FnExactEreEnd', WHERE WHAT IT READS IS OF BULK AT MOST 1048576: true; the input reads as it did. -/
def fnExactEreEndUptoRow : OpenClaim := { program := "ytndmaahodccpjaa", sum := "a8d36bac4ab9fa73a78a68789765cd0ab691748223e527b092f3739b0b1508f3", func := "loop.example/g01543/laws.FnExactEreEnd", spec := "fnExactEreEnd", apart := false, narrowed := true }
def FnExactEreEndUptoSaid : Prop := fnExactEreEndUptoRow.holds Try.pinned (OpenSpec.upto fnExactEreEndSpec)

/-- 'laws.FnExactNameEnd', WHERE WHAT IT READS IS OF BULK AT MOST 1048576: true; the input reads as it did. -/
def fnExactNameEndUptoRow : OpenClaim := { program := "ytndmaahodccpjaa", sum := "a8d36bac4ab9fa73a78a68789765cd0ab691748223e527b092f3739b0b1508f3", func := "loop.example/g01543/laws.FnExactNameEnd", spec := "fnExactNameEnd", apart := false, narrowed := true }
def FnExactNameEndUptoSaid : Prop := fnExactNameEndUptoRow.holds Try.pinned (OpenSpec.upto fnExactNameEndSpec)

end Rows
end Go.Proofs.Ytndmaahodccpjaa
