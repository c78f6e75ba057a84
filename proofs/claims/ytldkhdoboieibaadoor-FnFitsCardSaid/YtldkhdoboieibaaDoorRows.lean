/-
  NARROWER THAN 'FOR EVERY INPUT', by the rows' own cells (each row's printed sentence says how): FnFits: laid.
  DERIVED. THE GIVEN ROWS OF THIS SEAT. 1 by the template 'for every input the law returns true; each argument reads behind the call as it read before'; 0 by the template 'total and deterministic' (their statements: YtldkhdoboieibaaDoorTotals.lean).
  GIVEN WITH THE SEED: the statements are not yours to turn. If you find one false, say at which input.
  Laid BY PROGRAM, IN A SANDBOX (cutbox-rows.mjs): the forced cells as the released guide's own fill.sh prints them over the translation 7d2f0665730473d1… (all of the seat's roots in one cut). By AI agents, Wed Nov 11 2026. No macro, syntax, notation, axiom, sorry.
-/
import Derived.Test.YtldkhdoboieibaaDoorChecked
import GoSem.Claim
import GoSem.ClaimJoined
import GoSem.ClaimMapViews
import Derived.JoinedTies
import Derived.KernelRfl
namespace Go.Proofs.YtldkhdoboieibaaDoor
/- THE CELL 'sum', in the pinned program and in every row, IS THE sha256 OF THE DUMP (.gsa) THAT YtldkhdoboieibaaDoorProg.lean LOADS. Nothing in Lean hashes anything: it is a label: what it is worth is what the hold of that sum in a sandbox is worth. -/
noncomputable def Tryd.pinned : Pinned := { name := "ytldkhdoboieibaadoor", sum := "7d2f0665730473d12bc69f61d05cb9edb79a91e949370eb37c9aef7fdfe238ba", checked := Tryd.checked }
namespace Rows
def none {H : Type} : Left H := { results := [], args := [] }

/- WHAT THE LISTED PACKAGE-LEVEL VARIABLES READ AS WHEN THE CALL BEGINS. Each datum BY PROGRAM (the guide's laid-datum.mjs) off the statement by which the dump's own 'gosem.cut.vars' lays the variable. In a bare row this is a premise. The card (YtldkhdoboieibaaDoorCards.lean) ties it to the program's text. -/
def laid_loop_example_g01543_impl_levelWords {H : Type} : DataW H := .agg [.lit (.string []), .lit (.string [97, 115, 115, 105, 103, 110]), .lit (.string [99, 111, 110, 100]), .lit (.string [111, 114]), .lit (.string [97, 110, 100]), .lit (.string [105, 110]), .lit (.string [109, 97, 116, 99, 104]), .lit (.string [99, 111, 109, 112, 97, 114, 101]), .lit (.string [99, 97, 116]), .lit (.string [97, 100, 100]), .lit (.string [109, 117, 108]), .lit (.string [117, 110, 97, 114, 121]), .lit (.string [112, 111, 119]), .lit (.string [105, 110, 99, 114]), .lit (.string [102, 105, 101, 108, 100]), .lit (.string [112, 114, 105, 109, 97, 114, 121])]

/-- 'laws.FnFits': WHATEVER THE INPUT: true; the input reads as it did. -/
def fnFitsSpec : ChangeSpec := { name := "fnFits", vars := ["loop.example/g01543/impl.levelWords"], fn := fun _ => fun
  | [d, g1] => { results := [.lit (.bool true)], args := [d], vars := [g1] }
  | _ => none }
def fnFitsRow : OpenClaim := { program := "ytldkhdoboieibaadoor", sum := "7d2f0665730473d12bc69f61d05cb9edb79a91e949370eb37c9aef7fdfe238ba", func := "loop.example/g01543/laws.FnFits", spec := "fnFits", unfollowed := true, recurses := true, named := ["loop.example/g01543/impl.levelWords"], apart := false, laid := [("loop.example/g01543/impl.levelWords", laid_loop_example_g01543_impl_levelWords)] }
def FnFitsSaid : Prop := fnFitsRow.holds Tryd.pinned (OpenSpec.ofChange fnFitsSpec)

/-- ITS FALSE NEIGHBOUR: 'it returns false'. Refute it at one input. -/
def fnFitsWrong : ChangeSpec := { name := "fnFits", vars := ["loop.example/g01543/impl.levelWords"], fn := fun _ => fun
  | [d, g1] => { results := [.lit (.bool false)], args := [d], vars := [g1] }
  | _ => none }
def FnFitsWrongFalsely : Prop := fnFitsRow.holds Tryd.pinned (OpenSpec.ofChange fnFitsWrong)

/- THE SECOND FORM. 'bulk': how many values and letters a reading holds, each counted each time it is reached (what is shared counts as often as it is met; a slice's spare places count too). A statement '..UptoSaid' is the law's where the arguments, and the package variables that the reading takes, are together of bulk at most 1048576: NARROWER than '..Said'. Prove '..Said' where nothing that the law and all that it calls make is longer than what came in: it says more and counts as full. Else prove '..UptoSaid'. A law counts once. -/
mutual
def uptoBulk {H : Type} : DataW H → Nat
  | .lit (.string bytes) => bytes.length + 1
  | .lit _ => 1
  | .nil => 1
  | .ptr d => uptoBulk d + 1
  | .slice elems spare => uptoBulkAll elems + uptoBulkAll spare + 1
  | .agg parts => uptoBulkAll parts + 1
  | .iface _ d => uptoBulk d + 1
  | .map entries => uptoBulkEntries entries + 1
  | .held _ => 1
def uptoBulkAll {H : Type} : List (DataW H) → Nat
  | [] => 0
  | d :: r => uptoBulk d + uptoBulkAll r
def uptoBulkEntries {H : Type} : List (Lit × DataW H) → Nat
  | [] => 0
  | x :: r => uptoBulkEntry x + uptoBulkEntries r
def uptoBulkEntry {H : Type} : Lit × DataW H → Nat
  | (.string bytes, d) => bytes.length + uptoBulk d + 1
  | (_, d) => uptoBulk d + 1
 end
def uptoSmall : (H : Type) → List (DataW H) → Bool := fun _ ds => decide (uptoBulkAll ds ≤ 1048576)
def OpenSpec.upto (s : _root_.Go.ChangeSpec) : _root_.Go.OpenSpec := { _root_.Go.OpenSpec.ofChange s with cond := some uptoSmall }

/-- 'laws.FnFits', WHERE WHAT IT READS IS OF BULK AT MOST 1048576: true; the input reads as it did. -/
def fnFitsUptoRow : OpenClaim := { program := "ytldkhdoboieibaadoor", sum := "7d2f0665730473d12bc69f61d05cb9edb79a91e949370eb37c9aef7fdfe238ba", func := "loop.example/g01543/laws.FnFits", spec := "fnFits", unfollowed := true, recurses := true, named := ["loop.example/g01543/impl.levelWords"], apart := false, laid := [("loop.example/g01543/impl.levelWords", laid_loop_example_g01543_impl_levelWords)], narrowed := true }
def FnFitsUptoSaid : Prop := fnFitsUptoRow.holds Tryd.pinned (OpenSpec.upto fnFitsSpec)

end Rows
end Go.Proofs.YtldkhdoboieibaaDoor
