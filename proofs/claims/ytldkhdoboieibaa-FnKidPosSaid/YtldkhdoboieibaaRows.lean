/-
  No cell of these rows narrows 'for every input' (looked for: loops, veiled, ifaces, maps, wideKeys, modest, calm, conditions, laid).
  DERIVED. THE GIVEN ROWS OF THIS SEAT. 5 by the template 'for every input the law returns true; each argument reads behind the call as it read before'; 0 by the template 'total and deterministic' (their statements: YtldkhdoboieibaaTotals.lean).
  GIVEN WITH THE SEED: the statements are not yours to turn. If you find one false, say at which input.
  Laid BY PROGRAM, IN A SANDBOX (cutbox-rows.mjs): the forced cells as the released guide's own fill.sh prints them over the translation 5c37f0accf412d94… (all of the seat's roots in one cut). By AI agents, Wed Nov 11 2026. No macro, syntax, notation, axiom, sorry.
-/
import Derived.Test.YtldkhdoboieibaaChecked
import GoSem.Claim
import GoSem.ClaimJoined
import GoSem.ClaimMapViews
import Derived.JoinedTies
import Derived.KernelRfl
namespace Go.Proofs.Ytldkhdoboieibaa
/- THE CELL 'sum', in the pinned program and in every row, IS THE sha256 OF THE DUMP (.gsa) THAT YtldkhdoboieibaaProg.lean LOADS. Nothing in Lean hashes anything: it is a label: what it is worth is what the hold of that sum in a sandbox is worth. -/
noncomputable def Try.pinned : Pinned := { name := "ytldkhdoboieibaa", sum := "5c37f0accf412d9461ff19f18ab30e26e3949f7bae5f5bf92dd1df0299fdeb6a", checked := Try.checked }
namespace Rows
def none {H : Type} : Left H := { results := [], args := [] }

/-- 'laws.FnKidPos': WHATEVER THE INPUT: true; the input reads as it did. -/
def fnKidPosSpec : ChangeSpec := { name := "fnKidPos", fn := fun _ => fun
  | [d] => { results := [.lit (.bool true)], args := [d] }
  | _ => none }
def fnKidPosRow : OpenClaim := { program := "ytldkhdoboieibaa", sum := "5c37f0accf412d9461ff19f18ab30e26e3949f7bae5f5bf92dd1df0299fdeb6a", func := "loop.example/g01543/laws.FnKidPos", spec := "fnKidPos", unfollowed := true, recurses := true, apart := false }
def FnKidPosSaid : Prop := fnKidPosRow.holds Try.pinned (OpenSpec.ofChange fnKidPosSpec)

/-- ITS FALSE NEIGHBOUR: 'it returns false'. Refute it at one input. -/
def fnKidPosWrong : ChangeSpec := { name := "fnKidPos", fn := fun _ => fun
  | [d] => { results := [.lit (.bool false)], args := [d] }
  | _ => none }
def FnKidPosWrongFalsely : Prop := fnKidPosRow.holds Try.pinned (OpenSpec.ofChange fnKidPosWrong)

/-- 'laws.FnExactTop': WHATEVER THE INPUT: true; the input reads as it did. -/
def fnExactTopSpec : ChangeSpec := { name := "fnExactTop", fn := fun _ => fun
  | [] => { results := [.lit (.bool true)], args := [] }
  | _ => none }
def fnExactTopRow : OpenClaim := { program := "ytldkhdoboieibaa", sum := "5c37f0accf412d9461ff19f18ab30e26e3949f7bae5f5bf92dd1df0299fdeb6a", func := "loop.example/g01543/laws.FnExactTop", spec := "fnExactTop", apart := false }
def FnExactTopSaid : Prop := fnExactTopRow.holds Try.pinned (OpenSpec.ofChange fnExactTopSpec)

/-- ITS FALSE NEIGHBOUR: 'it returns false'. Refute it at one input. -/
def fnExactTopWrong : ChangeSpec := { name := "fnExactTop", fn := fun _ => fun
  | [] => { results := [.lit (.bool false)], args := [] }
  | _ => none }
def FnExactTopWrongFalsely : Prop := fnExactTopRow.holds Try.pinned (OpenSpec.ofChange fnExactTopWrong)

/-- 'laws.FnExactPosOk': WHATEVER THE INPUT: true; the input reads as it did. -/
def fnExactPosOkSpec : ChangeSpec := { name := "fnExactPosOk", fn := fun _ => fun
  | [d] => { results := [.lit (.bool true)], args := [d] }
  | _ => none }
def fnExactPosOkRow : OpenClaim := { program := "ytldkhdoboieibaa", sum := "5c37f0accf412d9461ff19f18ab30e26e3949f7bae5f5bf92dd1df0299fdeb6a", func := "loop.example/g01543/laws.FnExactPosOk", spec := "fnExactPosOk", apart := false }
def FnExactPosOkSaid : Prop := fnExactPosOkRow.holds Try.pinned (OpenSpec.ofChange fnExactPosOkSpec)

/-- ITS FALSE NEIGHBOUR: 'it returns false'. Refute it at one input. -/
def fnExactPosOkWrong : ChangeSpec := { name := "fnExactPosOk", fn := fun _ => fun
  | [d] => { results := [.lit (.bool false)], args := [d] }
  | _ => none }
def FnExactPosOkWrongFalsely : Prop := fnExactPosOkRow.holds Try.pinned (OpenSpec.ofChange fnExactPosOkWrong)

/-- 'laws.FnExactFits': WHATEVER THE INPUT: true; the input reads as it did. -/
def fnExactFitsSpec : ChangeSpec := { name := "fnExactFits", fn := fun _ => fun
  | [d1, d2] => { results := [.lit (.bool true)], args := [d1, d2] }
  | _ => none }
def fnExactFitsRow : OpenClaim := { program := "ytldkhdoboieibaa", sum := "5c37f0accf412d9461ff19f18ab30e26e3949f7bae5f5bf92dd1df0299fdeb6a", func := "loop.example/g01543/laws.FnExactFits", spec := "fnExactFits", unfollowed := true, recurses := true, apart := false }
def FnExactFitsSaid : Prop := fnExactFitsRow.holds Try.pinned (OpenSpec.ofChange fnExactFitsSpec)

/-- ITS FALSE NEIGHBOUR: 'it returns false'. Refute it at one input. -/
def fnExactFitsWrong : ChangeSpec := { name := "fnExactFits", fn := fun _ => fun
  | [d1, d2] => { results := [.lit (.bool false)], args := [d1, d2] }
  | _ => none }
def FnExactFitsWrongFalsely : Prop := fnExactFitsRow.holds Try.pinned (OpenSpec.ofChange fnExactFitsWrong)

/-- 'laws.FnExactKidPos': WHATEVER THE INPUT: true; the input reads as it did. -/
def fnExactKidPosSpec : ChangeSpec := { name := "fnExactKidPos", fn := fun _ => fun
  | [d1, d2, d3] => { results := [.lit (.bool true)], args := [d1, d2, d3] }
  | _ => none }
def fnExactKidPosRow : OpenClaim := { program := "ytldkhdoboieibaa", sum := "5c37f0accf412d9461ff19f18ab30e26e3949f7bae5f5bf92dd1df0299fdeb6a", func := "loop.example/g01543/laws.FnExactKidPos", spec := "fnExactKidPos", unfollowed := true, recurses := true, apart := false }
def FnExactKidPosSaid : Prop := fnExactKidPosRow.holds Try.pinned (OpenSpec.ofChange fnExactKidPosSpec)

/-- ITS FALSE NEIGHBOUR: 'it returns false'. Refute it at one input. -/
def fnExactKidPosWrong : ChangeSpec := { name := "fnExactKidPos", fn := fun _ => fun
  | [d1, d2, d3] => { results := [.lit (.bool false)], args := [d1, d2, d3] }
  | _ => none }
def FnExactKidPosWrongFalsely : Prop := fnExactKidPosRow.holds Try.pinned (OpenSpec.ofChange fnExactKidPosWrong)

/- THE SECOND FORM. 'bulk': how many values and letters a reading holds, each counted each time it is reached (what is shared counts as often as it is met; a slice's spare places count too). A statement '..UptoSaid' is the law's where the arguments, and the package variables that the reading takes, are together of bulk at most 1048576: NARROWER than '..Said'. Prove '..Said' where nothing that the law and all that it calls make is longer than what came in: it says more and counts as full. Else prove '..UptoSaid'. A law counts once. -/
mutual
def uptoBulk {H : Type} : DataW H → Nat
  | .lit (.string bytes) => bytes.length + 1
  | .lit _ => 1
  | .nil => 1
  | .ptr d => uptoBulk d + 1
  | .slice elems spare => uptoBulkAll elems + uptoBulkAll spare + 1
  | .agg parts => uptoBulkAll parts + 1
  | .iface _ d => uptoBulk d + 1
  | .map entries => uptoBulkEntries entries + 1
  | .held _ => 1
def uptoBulkAll {H : Type} : List (DataW H) → Nat
  | [] => 0
  | d :: r => uptoBulk d + uptoBulkAll r
def uptoBulkEntries {H : Type} : List (Lit × DataW H) → Nat
  | [] => 0
  | x :: r => uptoBulkEntry x + uptoBulkEntries r
def uptoBulkEntry {H : Type} : Lit × DataW H → Nat
  | (.string bytes, d) => bytes.length + uptoBulk d + 1
  | (_, d) => uptoBulk d + 1
 end
def uptoSmall : (H : Type) → List (DataW H) → Bool := fun _ ds => decide (uptoBulkAll ds ≤ 1048576)
def OpenSpec.upto (s : _root_.Go.ChangeSpec) : _root_.Go.OpenSpec := { _root_.Go.OpenSpec.ofChange s with cond := some uptoSmall }

/-- 'laws.FnKidPos', WHERE WHAT IT READS IS OF BULK AT MOST 1048576: true; the input reads as it did. -/
def fnKidPosUptoRow : OpenClaim := { program := "ytldkhdoboieibaa", sum := "5c37f0accf412d9461ff19f18ab30e26e3949f7bae5f5bf92dd1df0299fdeb6a", func := "loop.example/g01543/laws.FnKidPos", spec := "fnKidPos", unfollowed := true, recurses := true, apart := false, narrowed := true }
def FnKidPosUptoSaid : Prop := fnKidPosUptoRow.holds Try.pinned (OpenSpec.upto fnKidPosSpec)

/-- 'laws.FnExactTop', WHERE WHAT IT READS IS OF BULK AT MOST 1048576: true; the input reads as it did. -/
def fnExactTopUptoRow : OpenClaim := { program := "ytldkhdoboieibaa", sum := "5c37f0accf412d9461ff19f18ab30e26e3949f7bae5f5bf92dd1df0299fdeb6a", func := "loop.example/g01543/laws.FnExactTop", spec := "fnExactTop", apart := false, narrowed := true }
def FnExactTopUptoSaid : Prop := fnExactTopUptoRow.holds Try.pinned (OpenSpec.upto fnExactTopSpec)

/-- 'laws.FnExactPosOk', WHERE WHAT IT READS IS OF BULK AT MOST 1048576: true; the input reads as it did. -/
def fnExactPosOkUptoRow : OpenClaim := { program := "ytldkhdoboieibaa", sum := "5c37f0accf412d9461ff19f18ab30e26e3949f7bae5f5bf92dd1df0299fdeb6a", func := "loop.example/g01543/laws.FnExactPosOk", spec := "fnExactPosOk", apart := false, narrowed := true }
def FnExactPosOkUptoSaid : Prop := fnExactPosOkUptoRow.holds Try.pinned (OpenSpec.upto fnExactPosOkSpec)

/-- 'laws.FnExactFits', WHERE WHAT IT READS IS OF BULK AT MOST 1048576: true; the input reads as it did. -/
def fnExactFitsUptoRow : OpenClaim := { program := "ytldkhdoboieibaa", sum := "5c37f0accf412d9461ff19f18ab30e26e3949f7bae5f5bf92dd1df0299fdeb6a", func := "loop.example/g01543/laws.FnExactFits", spec := "fnExactFits", unfollowed := true, recurses := true, apart := false, narrowed := true }
def FnExactFitsUptoSaid : Prop := fnExactFitsUptoRow.holds Try.pinned (OpenSpec.upto fnExactFitsSpec)

/-- 'laws.FnExactKidPos', WHERE WHAT IT READS IS OF BULK AT MOST 1048576: true; the input reads as it did. -/
def fnExactKidPosUptoRow : OpenClaim := { program := "ytldkhdoboieibaa", sum := "5c37f0accf412d9461ff19f18ab30e26e3949f7bae5f5bf92dd1df0299fdeb6a", func := "loop.example/g01543/laws.FnExactKidPos", spec := "fnExactKidPos", unfollowed := true, recurses := true, apart := false, narrowed := true }
def FnExactKidPosUptoSaid : Prop := fnExactKidPosUptoRow.holds Try.pinned (OpenSpec.upto fnExactKidPosSpec)

end Rows
end Go.Proofs.Ytldkhdoboieibaa
