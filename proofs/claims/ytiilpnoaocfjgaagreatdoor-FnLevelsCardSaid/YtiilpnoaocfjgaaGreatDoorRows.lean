/-
  NARROWER THAN 'FOR EVERY INPUT', by the rows' own cells (each row's printed sentence says how): FnDerived: laid · FnRead: laid · FnOne: laid · FnFull: laid · FnBare: laid · FnLevels: laid · FnArgs: laid · FnExactParseExpr: laid · FnExactReadExpr: laid · FnExactDerives: laid · FnExactYield: laid.
  DERIVED. THE GIVEN ROWS OF THIS SEAT. 11 by the template 'for every input the law returns true; each argument reads behind the call as it read before'; 0 by the template 'total and deterministic' (their statements: YtiilpnoaocfjgaaGreatDoorTotals.lean).
  GIVEN WITH THE SEED: the statements are not yours to turn. If you find one false, say at which input.
  Laid BY PROGRAM, IN A SANDBOX (cutbox-rows.mjs): the forced cells as the released guide's own fill.sh prints them over the translation b9453de1af2585fd… (all of the seat's roots in one cut). By AI agents, Wed Nov 11 2026. No macro, syntax, notation, axiom, sorry.
-/
import Derived.Test.YtiilpnoaocfjgaaGreatDoorChecked
import GoSem.Claim
import GoSem.ClaimJoined
import GoSem.ClaimMapViews
import Derived.JoinedTies
import Derived.KernelRfl
namespace Go.Proofs.YtiilpnoaocfjgaaGreatDoor
/- THE CELL 'sum', in the pinned program and in every row, IS THE sha256 OF THE DUMP (.gsa) THAT YtiilpnoaocfjgaaGreatDoorProg.lean LOADS. Nothing in Lean hashes anything: it is a label: what it is worth is what the hold of that sum in a sandbox is worth. -/
noncomputable def Tryz.pinned : Pinned := { name := "ytiilpnoaocfjgaagreatdoor", sum := "b9453de1af2585fd12839d2cf2acd590dd1636d5c2140dd736692197fdf544dc", checked := Tryz.checked }
namespace Rows
def none {H : Type} : Left H := { results := [], args := [] }

/- WHAT THE LISTED PACKAGE-LEVEL VARIABLES READ AS WHEN THE CALL BEGINS. Each datum BY PROGRAM (the guide's laid-datum.mjs) off the statement by which the dump's own 'gosem.cut.vars' lays the variable. In a bare row this is a premise. The card (YtiilpnoaocfjgaaGreatDoorCards.lean) ties it to the program's text. -/
def laid_loop_example_g01543_impl_keywords {H : Type} : DataW H := .agg [.lit (.string [66, 69, 71, 73, 78]), .lit (.string [69, 78, 68]), .lit (.string [102, 117, 110, 99, 116, 105, 111, 110]), .lit (.string [105, 102]), .lit (.string [101, 108, 115, 101]), .lit (.string [119, 104, 105, 108, 101]), .lit (.string [102, 111, 114]), .lit (.string [100, 111]), .lit (.string [98, 114, 101, 97, 107]), .lit (.string [99, 111, 110, 116, 105, 110, 117, 101]), .lit (.string [110, 101, 120, 116]), .lit (.string [101, 120, 105, 116]), .lit (.string [114, 101, 116, 117, 114, 110]), .lit (.string [100, 101, 108, 101, 116, 101]), .lit (.string [105, 110]), .lit (.string [112, 114, 105, 110, 116]), .lit (.string [112, 114, 105, 110, 116, 102])]
def laid_loop_example_g01543_impl_operators {H : Type} : DataW H := .agg [.lit (.string [123]), .lit (.string [125]), .lit (.string [40]), .lit (.string [41]), .lit (.string [91]), .lit (.string [93]), .lit (.string [44]), .lit (.string [59]), .lit (.string [43, 61]), .lit (.string [45, 61]), .lit (.string [42, 61]), .lit (.string [47, 61]), .lit (.string [37, 61]), .lit (.string [94, 61]), .lit (.string [124, 124]), .lit (.string [38, 38]), .lit (.string [33, 126]), .lit (.string [61, 61]), .lit (.string [60, 61]), .lit (.string [62, 61]), .lit (.string [33, 61]), .lit (.string [43, 43]), .lit (.string [45, 45]), .lit (.string [62, 62]), .lit (.string [61]), .lit (.string [43]), .lit (.string [45]), .lit (.string [42]), .lit (.string [47]), .lit (.string [37]), .lit (.string [94]), .lit (.string [33]), .lit (.string [62]), .lit (.string [60]), .lit (.string [124]), .lit (.string [63]), .lit (.string [58]), .lit (.string [126]), .lit (.string [36])]

/-- 'laws.FnDerived': WHATEVER THE INPUT: true; the input reads as it did. -/
def fnDerivedSpec : ChangeSpec := { name := "fnDerived", vars := ["loop.example/g01543/impl.keywords", "loop.example/g01543/impl.operators"], fn := fun _ => fun
  | [d, g1, g2] => { results := [.lit (.bool true)], args := [d], vars := [g1, g2] }
  | _ => none }
def fnDerivedRow : OpenClaim := { program := "ytiilpnoaocfjgaagreatdoor", sum := "b9453de1af2585fd12839d2cf2acd590dd1636d5c2140dd736692197fdf544dc", func := "loop.example/g01543/laws.FnDerived", spec := "fnDerived", inPlace := ["internal/bytealg.IndexByteString", "internal/bytealg.IndexString"], unfollowed := true, recurses := true, named := ["internal/bytealg.MaxLen", "loop.example/g01543/impl.keywords", "loop.example/g01543/impl.operators"], plainKeys := false, apart := false, laid := [("loop.example/g01543/impl.keywords", laid_loop_example_g01543_impl_keywords), ("loop.example/g01543/impl.operators", laid_loop_example_g01543_impl_operators)] }
def FnDerivedSaid : Prop := fnDerivedRow.holds Tryz.pinned (OpenSpec.ofChange fnDerivedSpec)

/-- ITS FALSE NEIGHBOUR: 'it returns false'. Refute it at one input. -/
def fnDerivedWrong : ChangeSpec := { name := "fnDerived", vars := ["loop.example/g01543/impl.keywords", "loop.example/g01543/impl.operators"], fn := fun _ => fun
  | [d, g1, g2] => { results := [.lit (.bool false)], args := [d], vars := [g1, g2] }
  | _ => none }
def FnDerivedWrongFalsely : Prop := fnDerivedRow.holds Tryz.pinned (OpenSpec.ofChange fnDerivedWrong)

/-- 'laws.FnRead': WHATEVER THE INPUT: true; the input reads as it did. -/
def fnReadSpec : ChangeSpec := { name := "fnRead", vars := ["loop.example/g01543/impl.keywords", "loop.example/g01543/impl.operators"], fn := fun _ => fun
  | [d, g1, g2] => { results := [.lit (.bool true)], args := [d], vars := [g1, g2] }
  | _ => none }
def fnReadRow : OpenClaim := { program := "ytiilpnoaocfjgaagreatdoor", sum := "b9453de1af2585fd12839d2cf2acd590dd1636d5c2140dd736692197fdf544dc", func := "loop.example/g01543/laws.FnRead", spec := "fnRead", inPlace := ["internal/bytealg.IndexByteString", "internal/bytealg.IndexString"], unfollowed := true, recurses := true, named := ["internal/bytealg.MaxLen", "loop.example/g01543/impl.keywords", "loop.example/g01543/impl.operators"], plainKeys := false, apart := false, laid := [("loop.example/g01543/impl.keywords", laid_loop_example_g01543_impl_keywords), ("loop.example/g01543/impl.operators", laid_loop_example_g01543_impl_operators)] }
def FnReadSaid : Prop := fnReadRow.holds Tryz.pinned (OpenSpec.ofChange fnReadSpec)

/-- ITS FALSE NEIGHBOUR: 'it returns false'. Refute it at one input. -/
def fnReadWrong : ChangeSpec := { name := "fnRead", vars := ["loop.example/g01543/impl.keywords", "loop.example/g01543/impl.operators"], fn := fun _ => fun
  | [d, g1, g2] => { results := [.lit (.bool false)], args := [d], vars := [g1, g2] }
  | _ => none }
def FnReadWrongFalsely : Prop := fnReadRow.holds Tryz.pinned (OpenSpec.ofChange fnReadWrong)

/-- 'laws.FnOne': WHATEVER THE INPUT: true; the input reads as it did. -/
def fnOneSpec : ChangeSpec := { name := "fnOne", vars := ["loop.example/g01543/impl.keywords", "loop.example/g01543/impl.operators"], fn := fun _ => fun
  | [d, g1, g2] => { results := [.lit (.bool true)], args := [d], vars := [g1, g2] }
  | _ => none }
def fnOneRow : OpenClaim := { program := "ytiilpnoaocfjgaagreatdoor", sum := "b9453de1af2585fd12839d2cf2acd590dd1636d5c2140dd736692197fdf544dc", func := "loop.example/g01543/laws.FnOne", spec := "fnOne", inPlace := ["internal/bytealg.IndexByteString", "internal/bytealg.IndexString"], unfollowed := true, recurses := true, named := ["loop.example/g01543/impl.keywords", "loop.example/g01543/impl.operators", "internal/bytealg.MaxLen"], plainKeys := false, apart := false, laid := [("loop.example/g01543/impl.keywords", laid_loop_example_g01543_impl_keywords), ("loop.example/g01543/impl.operators", laid_loop_example_g01543_impl_operators)] }
def FnOneSaid : Prop := fnOneRow.holds Tryz.pinned (OpenSpec.ofChange fnOneSpec)

/-- ITS FALSE NEIGHBOUR: 'it returns false'. Refute it at one input. -/
def fnOneWrong : ChangeSpec := { name := "fnOne", vars := ["loop.example/g01543/impl.keywords", "loop.example/g01543/impl.operators"], fn := fun _ => fun
  | [d, g1, g2] => { results := [.lit (.bool false)], args := [d], vars := [g1, g2] }
  | _ => none }
def FnOneWrongFalsely : Prop := fnOneRow.holds Tryz.pinned (OpenSpec.ofChange fnOneWrong)

/-- 'laws.FnFull': WHATEVER THE INPUT: true; the input reads as it did. -/
def fnFullSpec : ChangeSpec := { name := "fnFull", vars := ["loop.example/g01543/impl.keywords", "loop.example/g01543/impl.operators"], fn := fun _ => fun
  | [d, g1, g2] => { results := [.lit (.bool true)], args := [d], vars := [g1, g2] }
  | _ => none }
def fnFullRow : OpenClaim := { program := "ytiilpnoaocfjgaagreatdoor", sum := "b9453de1af2585fd12839d2cf2acd590dd1636d5c2140dd736692197fdf544dc", func := "loop.example/g01543/laws.FnFull", spec := "fnFull", inPlace := ["internal/bytealg.IndexByteString", "internal/bytealg.IndexString"], unfollowed := true, recurses := true, named := ["loop.example/g01543/impl.keywords", "loop.example/g01543/impl.operators", "internal/bytealg.MaxLen"], plainKeys := false, apart := false, laid := [("loop.example/g01543/impl.keywords", laid_loop_example_g01543_impl_keywords), ("loop.example/g01543/impl.operators", laid_loop_example_g01543_impl_operators)] }
def FnFullSaid : Prop := fnFullRow.holds Tryz.pinned (OpenSpec.ofChange fnFullSpec)

/-- ITS FALSE NEIGHBOUR: 'it returns false'. Refute it at one input. -/
def fnFullWrong : ChangeSpec := { name := "fnFull", vars := ["loop.example/g01543/impl.keywords", "loop.example/g01543/impl.operators"], fn := fun _ => fun
  | [d, g1, g2] => { results := [.lit (.bool false)], args := [d], vars := [g1, g2] }
  | _ => none }
def FnFullWrongFalsely : Prop := fnFullRow.holds Tryz.pinned (OpenSpec.ofChange fnFullWrong)

/-- 'laws.FnBare': WHATEVER THE INPUT: true; the input reads as it did. -/
def fnBareSpec : ChangeSpec := { name := "fnBare", vars := ["loop.example/g01543/impl.keywords", "loop.example/g01543/impl.operators"], fn := fun _ => fun
  | [d, g1, g2] => { results := [.lit (.bool true)], args := [d], vars := [g1, g2] }
  | _ => none }
def fnBareRow : OpenClaim := { program := "ytiilpnoaocfjgaagreatdoor", sum := "b9453de1af2585fd12839d2cf2acd590dd1636d5c2140dd736692197fdf544dc", func := "loop.example/g01543/laws.FnBare", spec := "fnBare", inPlace := ["internal/bytealg.IndexByteString", "internal/bytealg.IndexString"], unfollowed := true, recurses := true, named := ["loop.example/g01543/impl.keywords", "loop.example/g01543/impl.operators", "internal/bytealg.MaxLen"], plainKeys := false, apart := false, laid := [("loop.example/g01543/impl.keywords", laid_loop_example_g01543_impl_keywords), ("loop.example/g01543/impl.operators", laid_loop_example_g01543_impl_operators)] }
def FnBareSaid : Prop := fnBareRow.holds Tryz.pinned (OpenSpec.ofChange fnBareSpec)

/-- ITS FALSE NEIGHBOUR: 'it returns false'. Refute it at one input. -/
def fnBareWrong : ChangeSpec := { name := "fnBare", vars := ["loop.example/g01543/impl.keywords", "loop.example/g01543/impl.operators"], fn := fun _ => fun
  | [d, g1, g2] => { results := [.lit (.bool false)], args := [d], vars := [g1, g2] }
  | _ => none }
def FnBareWrongFalsely : Prop := fnBareRow.holds Tryz.pinned (OpenSpec.ofChange fnBareWrong)

/-- 'laws.FnLevels': WHATEVER THE INPUT: true; the input reads as it did. -/
def fnLevelsSpec : ChangeSpec := { name := "fnLevels", vars := ["loop.example/g01543/impl.keywords", "loop.example/g01543/impl.operators"], fn := fun _ => fun
  | [d, g1, g2] => { results := [.lit (.bool true)], args := [d], vars := [g1, g2] }
  | _ => none }
def fnLevelsRow : OpenClaim := { program := "ytiilpnoaocfjgaagreatdoor", sum := "b9453de1af2585fd12839d2cf2acd590dd1636d5c2140dd736692197fdf544dc", func := "loop.example/g01543/laws.FnLevels", spec := "fnLevels", inPlace := ["internal/bytealg.IndexByteString", "internal/bytealg.IndexString"], unfollowed := true, recurses := true, named := ["loop.example/g01543/impl.keywords", "loop.example/g01543/impl.operators", "internal/bytealg.MaxLen"], plainKeys := false, apart := false, laid := [("loop.example/g01543/impl.keywords", laid_loop_example_g01543_impl_keywords), ("loop.example/g01543/impl.operators", laid_loop_example_g01543_impl_operators)] }
def FnLevelsSaid : Prop := fnLevelsRow.holds Tryz.pinned (OpenSpec.ofChange fnLevelsSpec)

/-- ITS FALSE NEIGHBOUR: 'it returns false'. Refute it at one input. -/
def fnLevelsWrong : ChangeSpec := { name := "fnLevels", vars := ["loop.example/g01543/impl.keywords", "loop.example/g01543/impl.operators"], fn := fun _ => fun
  | [d, g1, g2] => { results := [.lit (.bool false)], args := [d], vars := [g1, g2] }
  | _ => none }
def FnLevelsWrongFalsely : Prop := fnLevelsRow.holds Tryz.pinned (OpenSpec.ofChange fnLevelsWrong)

/-- 'laws.FnArgs': WHATEVER THE INPUT: true; the input reads as it did. -/
def fnArgsSpec : ChangeSpec := { name := "fnArgs", vars := ["loop.example/g01543/impl.keywords", "loop.example/g01543/impl.operators"], fn := fun _ => fun
  | [d, g1, g2] => { results := [.lit (.bool true)], args := [d], vars := [g1, g2] }
  | _ => none }
def fnArgsRow : OpenClaim := { program := "ytiilpnoaocfjgaagreatdoor", sum := "b9453de1af2585fd12839d2cf2acd590dd1636d5c2140dd736692197fdf544dc", func := "loop.example/g01543/laws.FnArgs", spec := "fnArgs", inPlace := ["internal/bytealg.IndexByteString", "internal/bytealg.IndexString"], unfollowed := true, recurses := true, named := ["loop.example/g01543/impl.keywords", "loop.example/g01543/impl.operators", "internal/bytealg.MaxLen"], plainKeys := false, apart := false, laid := [("loop.example/g01543/impl.keywords", laid_loop_example_g01543_impl_keywords), ("loop.example/g01543/impl.operators", laid_loop_example_g01543_impl_operators)] }
def FnArgsSaid : Prop := fnArgsRow.holds Tryz.pinned (OpenSpec.ofChange fnArgsSpec)

/-- ITS FALSE NEIGHBOUR: 'it returns false'. Refute it at one input. -/
def fnArgsWrong : ChangeSpec := { name := "fnArgs", vars := ["loop.example/g01543/impl.keywords", "loop.example/g01543/impl.operators"], fn := fun _ => fun
  | [d, g1, g2] => { results := [.lit (.bool false)], args := [d], vars := [g1, g2] }
  | _ => none }
def FnArgsWrongFalsely : Prop := fnArgsRow.holds Tryz.pinned (OpenSpec.ofChange fnArgsWrong)

/-- 'laws.FnExactParseExpr': WHATEVER THE INPUT: true; the input reads as it did. -/
def fnExactParseExprSpec : ChangeSpec := { name := "fnExactParseExpr", vars := ["loop.example/g01543/impl.keywords", "loop.example/g01543/impl.operators"], fn := fun _ => fun
  | [d1, d2, g1, g2] => { results := [.lit (.bool true)], args := [d1, d2], vars := [g1, g2] }
  | _ => none }
def fnExactParseExprRow : OpenClaim := { program := "ytiilpnoaocfjgaagreatdoor", sum := "b9453de1af2585fd12839d2cf2acd590dd1636d5c2140dd736692197fdf544dc", func := "loop.example/g01543/laws.FnExactParseExpr", spec := "fnExactParseExpr", inPlace := ["internal/bytealg.IndexByteString", "internal/bytealg.IndexString"], unfollowed := true, recurses := true, named := ["internal/bytealg.MaxLen", "loop.example/g01543/impl.keywords", "loop.example/g01543/impl.operators"], plainKeys := false, apart := false, laid := [("loop.example/g01543/impl.keywords", laid_loop_example_g01543_impl_keywords), ("loop.example/g01543/impl.operators", laid_loop_example_g01543_impl_operators)] }
def FnExactParseExprSaid : Prop := fnExactParseExprRow.holds Tryz.pinned (OpenSpec.ofChange fnExactParseExprSpec)

/-- ITS FALSE NEIGHBOUR: 'it returns false'. Refute it at one input. -/
def fnExactParseExprWrong : ChangeSpec := { name := "fnExactParseExpr", vars := ["loop.example/g01543/impl.keywords", "loop.example/g01543/impl.operators"], fn := fun _ => fun
  | [d1, d2, g1, g2] => { results := [.lit (.bool false)], args := [d1, d2], vars := [g1, g2] }
  | _ => none }
def FnExactParseExprWrongFalsely : Prop := fnExactParseExprRow.holds Tryz.pinned (OpenSpec.ofChange fnExactParseExprWrong)

/-- 'laws.FnExactReadExpr': WHATEVER THE INPUT: true; the input reads as it did. -/
def fnExactReadExprSpec : ChangeSpec := { name := "fnExactReadExpr", vars := ["loop.example/g01543/impl.keywords", "loop.example/g01543/impl.operators"], fn := fun _ => fun
  | [d, g1, g2] => { results := [.lit (.bool true)], args := [d], vars := [g1, g2] }
  | _ => none }
def fnExactReadExprRow : OpenClaim := { program := "ytiilpnoaocfjgaagreatdoor", sum := "b9453de1af2585fd12839d2cf2acd590dd1636d5c2140dd736692197fdf544dc", func := "loop.example/g01543/laws.FnExactReadExpr", spec := "fnExactReadExpr", inPlace := ["internal/bytealg.IndexByteString", "internal/bytealg.IndexString"], unfollowed := true, recurses := true, named := ["loop.example/g01543/impl.keywords", "loop.example/g01543/impl.operators", "internal/bytealg.MaxLen"], plainKeys := false, apart := false, laid := [("loop.example/g01543/impl.keywords", laid_loop_example_g01543_impl_keywords), ("loop.example/g01543/impl.operators", laid_loop_example_g01543_impl_operators)] }
def FnExactReadExprSaid : Prop := fnExactReadExprRow.holds Tryz.pinned (OpenSpec.ofChange fnExactReadExprSpec)

/-- ITS FALSE NEIGHBOUR: 'it returns false'. Refute it at one input. -/
def fnExactReadExprWrong : ChangeSpec := { name := "fnExactReadExpr", vars := ["loop.example/g01543/impl.keywords", "loop.example/g01543/impl.operators"], fn := fun _ => fun
  | [d, g1, g2] => { results := [.lit (.bool false)], args := [d], vars := [g1, g2] }
  | _ => none }
def FnExactReadExprWrongFalsely : Prop := fnExactReadExprRow.holds Tryz.pinned (OpenSpec.ofChange fnExactReadExprWrong)

/-- 'laws.FnExactDerives': WHATEVER THE INPUT: true; the input reads as it did. -/
def fnExactDerivesSpec : ChangeSpec := { name := "fnExactDerives", vars := ["loop.example/g01543/impl.keywords", "loop.example/g01543/impl.operators"], fn := fun _ => fun
  | [d1, d2, d3, g1, g2] => { results := [.lit (.bool true)], args := [d1, d2, d3], vars := [g1, g2] }
  | _ => none }
def fnExactDerivesRow : OpenClaim := { program := "ytiilpnoaocfjgaagreatdoor", sum := "b9453de1af2585fd12839d2cf2acd590dd1636d5c2140dd736692197fdf544dc", func := "loop.example/g01543/laws.FnExactDerives", spec := "fnExactDerives", inPlace := ["internal/bytealg.IndexByteString", "internal/bytealg.IndexString"], unfollowed := true, recurses := true, named := ["internal/bytealg.MaxLen", "loop.example/g01543/impl.keywords", "loop.example/g01543/impl.operators"], plainKeys := false, apart := false, laid := [("loop.example/g01543/impl.keywords", laid_loop_example_g01543_impl_keywords), ("loop.example/g01543/impl.operators", laid_loop_example_g01543_impl_operators)] }
def FnExactDerivesSaid : Prop := fnExactDerivesRow.holds Tryz.pinned (OpenSpec.ofChange fnExactDerivesSpec)

/-- ITS FALSE NEIGHBOUR: 'it returns false'. Refute it at one input. -/
def fnExactDerivesWrong : ChangeSpec := { name := "fnExactDerives", vars := ["loop.example/g01543/impl.keywords", "loop.example/g01543/impl.operators"], fn := fun _ => fun
  | [d1, d2, d3, g1, g2] => { results := [.lit (.bool false)], args := [d1, d2, d3], vars := [g1, g2] }
  | _ => none }
def FnExactDerivesWrongFalsely : Prop := fnExactDerivesRow.holds Tryz.pinned (OpenSpec.ofChange fnExactDerivesWrong)

/-- 'laws.FnExactYield': WHATEVER THE INPUT: true; the input reads as it did. -/
def fnExactYieldSpec : ChangeSpec := { name := "fnExactYield", vars := ["loop.example/g01543/impl.keywords", "loop.example/g01543/impl.operators"], fn := fun _ => fun
  | [d, g1, g2] => { results := [.lit (.bool true)], args := [d], vars := [g1, g2] }
  | _ => none }
def fnExactYieldRow : OpenClaim := { program := "ytiilpnoaocfjgaagreatdoor", sum := "b9453de1af2585fd12839d2cf2acd590dd1636d5c2140dd736692197fdf544dc", func := "loop.example/g01543/laws.FnExactYield", spec := "fnExactYield", inPlace := ["internal/bytealg.IndexByteString", "internal/bytealg.IndexString"], unfollowed := true, recurses := true, named := ["loop.example/g01543/impl.keywords", "loop.example/g01543/impl.operators", "internal/bytealg.MaxLen"], plainKeys := false, apart := false, laid := [("loop.example/g01543/impl.keywords", laid_loop_example_g01543_impl_keywords), ("loop.example/g01543/impl.operators", laid_loop_example_g01543_impl_operators)] }
def FnExactYieldSaid : Prop := fnExactYieldRow.holds Tryz.pinned (OpenSpec.ofChange fnExactYieldSpec)

/-- ITS FALSE NEIGHBOUR: 'it returns false'. Refute it at one input. -/
def fnExactYieldWrong : ChangeSpec := { name := "fnExactYield", vars := ["loop.example/g01543/impl.keywords", "loop.example/g01543/impl.operators"], fn := fun _ => fun
  | [d, g1, g2] => { results := [.lit (.bool false)], args := [d], vars := [g1, g2] }
  | _ => none }
def FnExactYieldWrongFalsely : Prop := fnExactYieldRow.holds Tryz.pinned (OpenSpec.ofChange fnExactYieldWrong)

/- THE SECOND FORM. 'bulk': how many values and letters a reading holds, each counted each time it is reached (what is shared counts as often as it is met; a slice's spare places count too). A statement '..UptoSaid' is the law's where the arguments, and the package variables that the reading takes, are together of bulk at most 1048576: NARROWER than '..Said'. Prove '..Said' where nothing that the law and all that it calls make is longer than what came in: it says more and counts as full. Else prove '..UptoSaid'. A law counts once. -/
mutual
def uptoBulk {H : Type} : DataW H → Nat
  | .lit (.string bytes) => bytes.length + 1
  | .lit _ => 1
  | .nil => 1
  | .ptr d => uptoBulk d + 1
  | .slice elems spare => uptoBulkAll elems + uptoBulkAll spare + 1
  | .agg parts => uptoBulkAll parts + 1
  | .iface _ d => uptoBulk d + 1
  | .map entries => uptoBulkEntries entries + 1
  | .held _ => 1
def uptoBulkAll {H : Type} : List (DataW H) → Nat
  | [] => 0
  | d :: r => uptoBulk d + uptoBulkAll r
def uptoBulkEntries {H : Type} : List (Lit × DataW H) → Nat
  | [] => 0
  | x :: r => uptoBulkEntry x + uptoBulkEntries r
def uptoBulkEntry {H : Type} : Lit × DataW H → Nat
  | (.string bytes, d) => bytes.length + uptoBulk d + 1
  | (_, d) => uptoBulk d + 1
 end
def uptoSmall : (H : Type) → List (DataW H) → Bool := fun _ ds => decide (uptoBulkAll ds ≤ 1048576)
def OpenSpec.upto (s : _root_.Go.ChangeSpec) : _root_.Go.OpenSpec := { _root_.Go.OpenSpec.ofChange s with cond := some uptoSmall }

/-- 'laws.FnDerived', WHERE WHAT IT READS IS OF BULK AT MOST 1048576: true; the input reads as it did. -/
def fnDerivedUptoRow : OpenClaim := { program := "ytiilpnoaocfjgaagreatdoor", sum := "b9453de1af2585fd12839d2cf2acd590dd1636d5c2140dd736692197fdf544dc", func := "loop.example/g01543/laws.FnDerived", spec := "fnDerived", inPlace := ["internal/bytealg.IndexByteString", "internal/bytealg.IndexString"], unfollowed := true, recurses := true, named := ["internal/bytealg.MaxLen", "loop.example/g01543/impl.keywords", "loop.example/g01543/impl.operators"], plainKeys := false, apart := false, laid := [("loop.example/g01543/impl.keywords", laid_loop_example_g01543_impl_keywords), ("loop.example/g01543/impl.operators", laid_loop_example_g01543_impl_operators)], narrowed := true }
def FnDerivedUptoSaid : Prop := fnDerivedUptoRow.holds Tryz.pinned (OpenSpec.upto fnDerivedSpec)

/-- 'laws.FnRead', WHERE WHAT IT READS IS OF BULK AT MOST 1048576: true; the input reads as it did. -/
def fnReadUptoRow : OpenClaim := { program := "ytiilpnoaocfjgaagreatdoor", sum := "b9453de1af2585fd12839d2cf2acd590dd1636d5c2140dd736692197fdf544dc", func := "loop.example/g01543/laws.FnRead", spec := "fnRead", inPlace := ["internal/bytealg.IndexByteString", "internal/bytealg.IndexString"], unfollowed := true, recurses := true, named := ["internal/bytealg.MaxLen", "loop.example/g01543/impl.keywords", "loop.example/g01543/impl.operators"], plainKeys := false, apart := false, laid := [("loop.example/g01543/impl.keywords", laid_loop_example_g01543_impl_keywords), ("loop.example/g01543/impl.operators", laid_loop_example_g01543_impl_operators)], narrowed := true }
def FnReadUptoSaid : Prop := fnReadUptoRow.holds Tryz.pinned (OpenSpec.upto fnReadSpec)

/-- 'laws.FnOne', WHERE WHAT IT READS IS OF BULK AT MOST 1048576: true; the input reads as it did. -/
def fnOneUptoRow : OpenClaim := { program := "ytiilpnoaocfjgaagreatdoor", sum := "b9453de1af2585fd12839d2cf2acd590dd1636d5c2140dd736692197fdf544dc", func := "loop.example/g01543/laws.FnOne", spec := "fnOne", inPlace := ["internal/bytealg.IndexByteString", "internal/bytealg.IndexString"], unfollowed := true, recurses := true, named := ["loop.example/g01543/impl.keywords", "loop.example/g01543/impl.operators", "internal/bytealg.MaxLen"], plainKeys := false, apart := false, laid := [("loop.example/g01543/impl.keywords", laid_loop_example_g01543_impl_keywords), ("loop.example/g01543/impl.operators", laid_loop_example_g01543_impl_operators)], narrowed := true }
def FnOneUptoSaid : Prop := fnOneUptoRow.holds Tryz.pinned (OpenSpec.upto fnOneSpec)

/-- 'laws.FnFull', WHERE WHAT IT READS IS OF BULK AT MOST 1048576: true; the input reads as it did. -/
def fnFullUptoRow : OpenClaim := { program := "ytiilpnoaocfjgaagreatdoor", sum := "b9453de1af2585fd12839d2cf2acd590dd1636d5c2140dd736692197fdf544dc", func := "loop.example/g01543/laws.FnFull", spec := "fnFull", inPlace := ["internal/bytealg.IndexByteString", "internal/bytealg.IndexString"], unfollowed := true, recurses := true, named := ["loop.example/g01543/impl.keywords", "loop.example/g01543/impl.operators", "internal/bytealg.MaxLen"], plainKeys := false, apart := false, laid := [("loop.example/g01543/impl.keywords", laid_loop_example_g01543_impl_keywords), ("loop.example/g01543/impl.operators", laid_loop_example_g01543_impl_operators)], narrowed := true }
def FnFullUptoSaid : Prop := fnFullUptoRow.holds Tryz.pinned (OpenSpec.upto fnFullSpec)

/-- 'laws.FnBare', WHERE WHAT IT READS IS OF BULK AT MOST 1048576: true; the input reads as it did. -/
def fnBareUptoRow : OpenClaim := { program := "ytiilpnoaocfjgaagreatdoor", sum := "b9453de1af2585fd12839d2cf2acd590dd1636d5c2140dd736692197fdf544dc", func := "loop.example/g01543/laws.FnBare", spec := "fnBare", inPlace := ["internal/bytealg.IndexByteString", "internal/bytealg.IndexString"], unfollowed := true, recurses := true, named := ["loop.example/g01543/impl.keywords", "loop.example/g01543/impl.operators", "internal/bytealg.MaxLen"], plainKeys := false, apart := false, laid := [("loop.example/g01543/impl.keywords", laid_loop_example_g01543_impl_keywords), ("loop.example/g01543/impl.operators", laid_loop_example_g01543_impl_operators)], narrowed := true }
def FnBareUptoSaid : Prop := fnBareUptoRow.holds Tryz.pinned (OpenSpec.upto fnBareSpec)

/-- 'laws.FnLevels', WHERE WHAT IT READS IS OF BULK AT MOST 1048576: true; the input reads as it did. -/
def fnLevelsUptoRow : OpenClaim := { program := "ytiilpnoaocfjgaagreatdoor", sum := "b9453de1af2585fd12839d2cf2acd590dd1636d5c2140dd736692197fdf544dc", func := "loop.example/g01543/laws.FnLevels", spec := "fnLevels", inPlace := ["internal/bytealg.IndexByteString", "internal/bytealg.IndexString"], unfollowed := true, recurses := true, named := ["loop.example/g01543/impl.keywords", "loop.example/g01543/impl.operators", "internal/bytealg.MaxLen"], plainKeys := false, apart := false, laid := [("loop.example/g01543/impl.keywords", laid_loop_example_g01543_impl_keywords), ("loop.example/g01543/impl.operators", laid_loop_example_g01543_impl_operators)], narrowed := true }
def FnLevelsUptoSaid : Prop := fnLevelsUptoRow.holds Tryz.pinned (OpenSpec.upto fnLevelsSpec)

/-- 'laws.FnArgs', WHERE WHAT IT READS IS OF BULK AT MOST 1048576: true; the input reads as it did. -/
def fnArgsUptoRow : OpenClaim := { program := "ytiilpnoaocfjgaagreatdoor", sum := "b9453de1af2585fd12839d2cf2acd590dd1636d5c2140dd736692197fdf544dc", func := "loop.example/g01543/laws.FnArgs", spec := "fnArgs", inPlace := ["internal/bytealg.IndexByteString", "internal/bytealg.IndexString"], unfollowed := true, recurses := true, named := ["loop.example/g01543/impl.keywords", "loop.example/g01543/impl.operators", "internal/bytealg.MaxLen"], plainKeys := false, apart := false, laid := [("loop.example/g01543/impl.keywords", laid_loop_example_g01543_impl_keywords), ("loop.example/g01543/impl.operators", laid_loop_example_g01543_impl_operators)], narrowed := true }
def FnArgsUptoSaid : Prop := fnArgsUptoRow.holds Tryz.pinned (OpenSpec.upto fnArgsSpec)

/-- 'laws.FnExactParseExpr', WHERE WHAT IT READS IS OF BULK AT MOST 1048576: true; the input reads as it did. -/
def fnExactParseExprUptoRow : OpenClaim := { program := "ytiilpnoaocfjgaagreatdoor", sum := "b9453de1af2585fd12839d2cf2acd590dd1636d5c2140dd736692197fdf544dc", func := "loop.example/g01543/laws.FnExactParseExpr", spec := "fnExactParseExpr", inPlace := ["internal/bytealg.IndexByteString", "internal/bytealg.IndexString"], unfollowed := true, recurses := true, named := ["internal/bytealg.MaxLen", "loop.example/g01543/impl.keywords", "loop.example/g01543/impl.operators"], plainKeys := false, apart := false, laid := [("loop.example/g01543/impl.keywords", laid_loop_example_g01543_impl_keywords), ("loop.example/g01543/impl.operators", laid_loop_example_g01543_impl_operators)], narrowed := true }
def FnExactParseExprUptoSaid : Prop := fnExactParseExprUptoRow.holds Tryz.pinned (OpenSpec.upto fnExactParseExprSpec)

/-- 'laws.FnExactReadExpr', WHERE WHAT IT READS IS OF BULK AT MOST 1048576: true; the input reads as it did. -/
def fnExactReadExprUptoRow : OpenClaim := { program := "ytiilpnoaocfjgaagreatdoor", sum := "b9453de1af2585fd12839d2cf2acd590dd1636d5c2140dd736692197fdf544dc", func := "loop.example/g01543/laws.FnExactReadExpr", spec := "fnExactReadExpr", inPlace := ["internal/bytealg.IndexByteString", "internal/bytealg.IndexString"], unfollowed := true, recurses := true, named := ["loop.example/g01543/impl.keywords", "loop.example/g01543/impl.operators", "internal/bytealg.MaxLen"], plainKeys := false, apart := false, laid := [("loop.example/g01543/impl.keywords", laid_loop_example_g01543_impl_keywords), ("loop.example/g01543/impl.operators", laid_loop_example_g01543_impl_operators)], narrowed := true }
def FnExactReadExprUptoSaid : Prop := fnExactReadExprUptoRow.holds Tryz.pinned (OpenSpec.upto fnExactReadExprSpec)

/-- 'laws.FnExactDerives', WHERE WHAT IT READS IS OF BULK AT MOST 1048576: true; the input reads as it did. -/
def fnExactDerivesUptoRow : OpenClaim := { program := "ytiilpnoaocfjgaagreatdoor", sum := "b9453de1af2585fd12839d2cf2acd590dd1636d5c2140dd736692197fdf544dc", func := "loop.example/g01543/laws.FnExactDerives", spec := "fnExactDerives", inPlace := ["internal/bytealg.IndexByteString", "internal/bytealg.IndexString"], unfollowed := true, recurses := true, named := ["internal/bytealg.MaxLen", "loop.example/g01543/impl.keywords", "loop.example/g01543/impl.operators"], plainKeys := false, apart := false, laid := [("loop.example/g01543/impl.keywords", laid_loop_example_g01543_impl_keywords), ("loop.example/g01543/impl.operators", laid_loop_example_g01543_impl_operators)], narrowed := true }
def FnExactDerivesUptoSaid : Prop := fnExactDerivesUptoRow.holds Tryz.pinned (OpenSpec.upto fnExactDerivesSpec)

/-- 'laws.FnExactYield', WHERE WHAT IT READS IS OF BULK AT MOST 1048576: true; the input reads as it did. -/
def fnExactYieldUptoRow : OpenClaim := { program := "ytiilpnoaocfjgaagreatdoor", sum := "b9453de1af2585fd12839d2cf2acd590dd1636d5c2140dd736692197fdf544dc", func := "loop.example/g01543/laws.FnExactYield", spec := "fnExactYield", inPlace := ["internal/bytealg.IndexByteString", "internal/bytealg.IndexString"], unfollowed := true, recurses := true, named := ["loop.example/g01543/impl.keywords", "loop.example/g01543/impl.operators", "internal/bytealg.MaxLen"], plainKeys := false, apart := false, laid := [("loop.example/g01543/impl.keywords", laid_loop_example_g01543_impl_keywords), ("loop.example/g01543/impl.operators", laid_loop_example_g01543_impl_operators)], narrowed := true }
def FnExactYieldUptoSaid : Prop := fnExactYieldUptoRow.holds Tryz.pinned (OpenSpec.upto fnExactYieldSpec)

end Rows
end Go.Proofs.YtiilpnoaocfjgaaGreatDoor
