/-
  NARROWER THAN 'FOR EVERY INPUT', by the rows' own cells (each row's printed sentence says how): FnExactOpSpell: laid · FnExactLevelWord: laid.
  DERIVED. THE GIVEN ROWS OF THIS SEAT. 2 by the template 'for every input the law returns true; each argument reads behind the call as it read before'; 0 by the template 'total and deterministic' (their statements: YtphccenlflhfjaaDoorTotals.lean).
  GIVEN WITH THE SEED: the statements are not yours to turn. If you find one false, say at which input.
  Laid BY PROGRAM, IN A SANDBOX (cutbox-rows.mjs): the forced cells as the released guide's own fill.sh prints them over the translation 6a4ea000c2c8c9e5… (all of the seat's roots in one cut). By AI agents, Wed Nov 11 2026. No macro, syntax, notation, axiom, sorry.
-/
import Derived.Test.YtphccenlflhfjaaDoorChecked
import GoSem.Claim
import GoSem.ClaimJoined
import GoSem.ClaimMapViews
import Derived.JoinedTies
import Derived.KernelRfl
namespace Go.Proofs.YtphccenlflhfjaaDoor
/- THE CELL 'sum', in the pinned program and in every row, IS THE sha256 OF THE DUMP (.gsa) THAT YtphccenlflhfjaaDoorProg.lean LOADS. Nothing in Lean hashes anything: it is a label: what it is worth is what the hold of that sum in a sandbox is worth. -/
noncomputable def Tryd.pinned : Pinned := { name := "ytphccenlflhfjaadoor", sum := "6a4ea000c2c8c9e52f9796759f784457f36e54cf6689076720a8bfded09ee606", checked := Tryd.checked }
namespace Rows
def none {H : Type} : Left H := { results := [], args := [] }

/- WHAT THE LISTED PACKAGE-LEVEL VARIABLES READ AS WHEN THE CALL BEGINS. Each datum BY PROGRAM (the guide's laid-datum.mjs) off the statement by which the dump's own 'gosem.cut.vars' lays the variable. In a bare row this is a premise. The card (YtphccenlflhfjaaDoorCards.lean) ties it to the program's text. -/
def laid_loop_example_g01543_impl_keywords {H : Type} : DataW H := .agg [.lit (.string [66, 69, 71, 73, 78]), .lit (.string [69, 78, 68]), .lit (.string [102, 117, 110, 99, 116, 105, 111, 110]), .lit (.string [105, 102]), .lit (.string [101, 108, 115, 101]), .lit (.string [119, 104, 105, 108, 101]), .lit (.string [102, 111, 114]), .lit (.string [100, 111]), .lit (.string [98, 114, 101, 97, 107]), .lit (.string [99, 111, 110, 116, 105, 110, 117, 101]), .lit (.string [110, 101, 120, 116]), .lit (.string [101, 120, 105, 116]), .lit (.string [114, 101, 116, 117, 114, 110]), .lit (.string [100, 101, 108, 101, 116, 101]), .lit (.string [105, 110]), .lit (.string [112, 114, 105, 110, 116]), .lit (.string [112, 114, 105, 110, 116, 102])]
def laid_loop_example_g01543_impl_operators {H : Type} : DataW H := .agg [.lit (.string [123]), .lit (.string [125]), .lit (.string [40]), .lit (.string [41]), .lit (.string [91]), .lit (.string [93]), .lit (.string [44]), .lit (.string [59]), .lit (.string [43, 61]), .lit (.string [45, 61]), .lit (.string [42, 61]), .lit (.string [47, 61]), .lit (.string [37, 61]), .lit (.string [94, 61]), .lit (.string [124, 124]), .lit (.string [38, 38]), .lit (.string [33, 126]), .lit (.string [61, 61]), .lit (.string [60, 61]), .lit (.string [62, 61]), .lit (.string [33, 61]), .lit (.string [43, 43]), .lit (.string [45, 45]), .lit (.string [62, 62]), .lit (.string [61]), .lit (.string [43]), .lit (.string [45]), .lit (.string [42]), .lit (.string [47]), .lit (.string [37]), .lit (.string [94]), .lit (.string [33]), .lit (.string [62]), .lit (.string [60]), .lit (.string [124]), .lit (.string [63]), .lit (.string [58]), .lit (.string [126]), .lit (.string [36])]
def laid_loop_example_g01543_impl_levelWords {H : Type} : DataW H := .agg [.lit (.string []), .lit (.string [97, 115, 115, 105, 103, 110]), .lit (.string [99, 111, 110, 100]), .lit (.string [111, 114]), .lit (.string [97, 110, 100]), .lit (.string [105, 110]), .lit (.string [109, 97, 116, 99, 104]), .lit (.string [99, 111, 109, 112, 97, 114, 101]), .lit (.string [99, 97, 116]), .lit (.string [97, 100, 100]), .lit (.string [109, 117, 108]), .lit (.string [117, 110, 97, 114, 121]), .lit (.string [112, 111, 119]), .lit (.string [105, 110, 99, 114]), .lit (.string [102, 105, 101, 108, 100]), .lit (.string [112, 114, 105, 109, 97, 114, 121])]

/-- 'laws.FnExactOpSpell': WHATEVER THE INPUT: true; the input reads as it did. -/
def fnExactOpSpellSpec : ChangeSpec := { name := "fnExactOpSpell", vars := ["loop.example/g01543/impl.keywords", "loop.example/g01543/impl.operators"], fn := fun _ => fun
  | [d, g1, g2] => { results := [.lit (.bool true)], args := [d], vars := [g1, g2] }
  | _ => none }
def fnExactOpSpellRow : OpenClaim := { program := "ytphccenlflhfjaadoor", sum := "6a4ea000c2c8c9e52f9796759f784457f36e54cf6689076720a8bfded09ee606", func := "loop.example/g01543/laws.FnExactOpSpell", spec := "fnExactOpSpell", unfollowed := true, recurses := true, named := ["loop.example/g01543/impl.keywords", "loop.example/g01543/impl.operators"], apart := false, laid := [("loop.example/g01543/impl.keywords", laid_loop_example_g01543_impl_keywords), ("loop.example/g01543/impl.operators", laid_loop_example_g01543_impl_operators)] }
def FnExactOpSpellSaid : Prop := fnExactOpSpellRow.holds Tryd.pinned (OpenSpec.ofChange fnExactOpSpellSpec)

/-- ITS FALSE NEIGHBOUR: 'it returns false'. Refute it at one input. -/
def fnExactOpSpellWrong : ChangeSpec := { name := "fnExactOpSpell", vars := ["loop.example/g01543/impl.keywords", "loop.example/g01543/impl.operators"], fn := fun _ => fun
  | [d, g1, g2] => { results := [.lit (.bool false)], args := [d], vars := [g1, g2] }
  | _ => none }
def FnExactOpSpellWrongFalsely : Prop := fnExactOpSpellRow.holds Tryd.pinned (OpenSpec.ofChange fnExactOpSpellWrong)

/-- 'laws.FnExactLevelWord': WHATEVER THE INPUT: true; the input reads as it did. -/
def fnExactLevelWordSpec : ChangeSpec := { name := "fnExactLevelWord", vars := ["loop.example/g01543/impl.levelWords"], fn := fun _ => fun
  | [d, g1] => { results := [.lit (.bool true)], args := [d], vars := [g1] }
  | _ => none }
def fnExactLevelWordRow : OpenClaim := { program := "ytphccenlflhfjaadoor", sum := "6a4ea000c2c8c9e52f9796759f784457f36e54cf6689076720a8bfded09ee606", func := "loop.example/g01543/laws.FnExactLevelWord", spec := "fnExactLevelWord", named := ["loop.example/g01543/impl.levelWords"], apart := false, laid := [("loop.example/g01543/impl.levelWords", laid_loop_example_g01543_impl_levelWords)] }
def FnExactLevelWordSaid : Prop := fnExactLevelWordRow.holds Tryd.pinned (OpenSpec.ofChange fnExactLevelWordSpec)

/-- ITS FALSE NEIGHBOUR: 'it returns false'. Refute it at one input. -/
def fnExactLevelWordWrong : ChangeSpec := { name := "fnExactLevelWord", vars := ["loop.example/g01543/impl.levelWords"], fn := fun _ => fun
  | [d, g1] => { results := [.lit (.bool false)], args := [d], vars := [g1] }
  | _ => none }
def FnExactLevelWordWrongFalsely : Prop := fnExactLevelWordRow.holds Tryd.pinned (OpenSpec.ofChange fnExactLevelWordWrong)

/- THE SECOND FORM. 'bulk': how many values and letters a reading holds, each counted each time it is reached (what is shared counts as often as it is met; a slice's spare places count too). A statement '..UptoSaid' is the law's where the arguments, and the package variables that the reading takes, are together of bulk at most 1048576: NARROWER than '..Said'. Prove '..Said' where nothing that the law and all that it calls make is longer than what came in: it says more and counts as full. Else prove '..UptoSaid'. A law counts once. -/
mutual
def uptoBulk {H : Type} : DataW H → Nat
  | .lit (.string bytes) => bytes.length + 1
  | .lit _ => 1
  | .nil => 1
  | .ptr d => uptoBulk d + 1
  | .slice elems spare => uptoBulkAll elems + uptoBulkAll spare + 1
  | .agg parts => uptoBulkAll parts + 1
  | .iface _ d => uptoBulk d + 1
  | .map entries => uptoBulkEntries entries + 1
  | .held _ => 1
def uptoBulkAll {H : Type} : List (DataW H) → Nat
  | [] => 0
  | d :: r => uptoBulk d + uptoBulkAll r
def uptoBulkEntries {H : Type} : List (Lit × DataW H) → Nat
  | [] => 0
  | x :: r => uptoBulkEntry x + uptoBulkEntries r
def uptoBulkEntry {H : Type} : Lit × DataW H → Nat
  | (.string bytes, d) => bytes.length + uptoBulk d + 1
  | (_, d) => uptoBulk d + 1
 end
def uptoSmall : (H : Type) → List (DataW H) → Bool := fun _ ds => decide (uptoBulkAll ds ≤ 1048576)
def OpenSpec.upto (s : _root_.Go.ChangeSpec) : _root_.Go.OpenSpec := { _root_.Go.OpenSpec.ofChange s with cond := some uptoSmall }

/-- 'laws.FnExactOpSpell', WHERE WHAT IT READS IS OF BULK AT MOST 1048576: true; the input reads as it did. -/
def fnExactOpSpellUptoRow : OpenClaim := { program := "ytphccenlflhfjaadoor", sum := "6a4ea000c2c8c9e52f9796759f784457f36e54cf6689076720a8bfded09ee606", func := "loop.example/g01543/laws.FnExactOpSpell", spec := "fnExactOpSpell", unfollowed := true, recurses := true, named := ["loop.example/g01543/impl.keywords", "loop.example/g01543/impl.operators"], apart := false, laid := [("loop.example/g01543/impl.keywords", laid_loop_example_g01543_impl_keywords), ("loop.example/g01543/impl.operators", laid_loop_example_g01543_impl_operators)], narrowed := true }
def FnExactOpSpellUptoSaid : Prop := fnExactOpSpellUptoRow.holds Tryd.pinned (OpenSpec.upto fnExactOpSpellSpec)

/-- 'laws.FnExactLevelWord', WHERE WHAT IT READS IS OF BULK AT MOST 1048576: true; the input reads as it did. -/
def fnExactLevelWordUptoRow : OpenClaim := { program := "ytphccenlflhfjaadoor", sum := "6a4ea000c2c8c9e52f9796759f784457f36e54cf6689076720a8bfded09ee606", func := "loop.example/g01543/laws.FnExactLevelWord", spec := "fnExactLevelWord", named := ["loop.example/g01543/impl.levelWords"], apart := false, laid := [("loop.example/g01543/impl.levelWords", laid_loop_example_g01543_impl_levelWords)], narrowed := true }
def FnExactLevelWordUptoSaid : Prop := fnExactLevelWordUptoRow.holds Tryd.pinned (OpenSpec.upto fnExactLevelWordSpec)

end Rows
end Go.Proofs.YtphccenlflhfjaaDoor
