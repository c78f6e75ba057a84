/- A part of the proof; no condition of its own. -/
import Derived.Test.YtebjmdpkobhcbaaGreatDoorRows
import Derived.Test.YtebjmdpkobhcbaaGreatDoorZBase
import Derived.Test.YtebjmdpkobhcbaaGreatDoorZChars
import Derived.WalkKit
import Derived.ProofKit
import Derived.OpenShut
import Derived.ShutString
import Derived.ChangeOld
import Derived.Below
import Derived.WalkSpells
import Derived.WalkLawsBesides
namespace Go.Proofs.YtebjmdpkobhcbaaGreatDoor.rt
open Lib (hid)
open Go.ChangeShapes Go.WideShapes Go.ChangeAt Go.RowKit
open chars (inR)
set_option linter.unusedVariables false
theorem eq_facts{x c:Int}(h:x=c):(x==c)=true∧(x !=c)=false:=by subst h;simp
theorem ne_facts{x c:Int}(h:¬x=c):(x==c)=false∧(x !=c)=true:=by simp[h]
def isExpr(k:Int):Bool:=inR k 1 15
def isStmt(k:Int):Bool:=inR k 20 34
def isItem(k:Int):Bool:=inR k 40 44
def isLval(k:Int):Bool:=k==1||(k==5||k==6)
theorem spec_isLval(n:Int)(w:World):Calls Tryz.prog 150 #[.int .i64 n] w fun e w'=>e= .returned (.bool (isLval n))∧w=w':=by
 by_cases h1:n=1
 ·subst h1
  go_enter Tryz.func150,Tryz.ntmps150
  go_wp2
  go_ret
  exact⟨rfl,rfl⟩
 by_cases h2:n=5
 ·subst h2
  go_enter Tryz.func150,Tryz.ntmps150
  go_wp2
  go_ret
  exact⟨rfl,rfl⟩
 obtain⟨d1,-⟩:=ne_facts h1
 obtain⟨d2,-⟩:=ne_facts h2
 have HE:=hid (show isLval n=(n==6) by unfold isLval;rw[d1,d2];rfl)
 clear h1 h2
 go_enter Tryz.func150,Tryz.ntmps150
 go_wp2
 go_ret
 exact⟨by rw[HE.out];rfl,rfl⟩
theorem impl_isLval(n:Int)(w:World):Calls Tryz.prog 273 #[.int .i64 n] w fun e w'=>e= .returned (.bool (isLval n))∧w=w':=by
 by_cases h1:n=1
 ·subst h1
  go_enter Tryz.func273,Tryz.ntmps273
  go_wp2
  go_ret
  exact⟨rfl,rfl⟩
 by_cases h2:n=5
 ·subst h2
  go_enter Tryz.func273,Tryz.ntmps273
  go_wp2
  go_ret
  exact⟨rfl,rfl⟩
 obtain⟨d1,-⟩:=ne_facts h1
 obtain⟨d2,-⟩:=ne_facts h2
 have HE:=hid (show isLval n=(n==6) by unfold isLval;rw[d1,d2];rfl)
 clear h1 h2
 go_enter Tryz.func273,Tryz.ntmps273
 go_wp2
 go_ret
 exact⟨by rw[HE.out];rfl,rfl⟩
end Go.Proofs.YtebjmdpkobhcbaaGreatDoor.rt
