/-

-/
import Derived.Test.YtnoagleifffkcaaGreatDoorRows
import Derived.Test.YtnoagleifffkcaaGreatDoorZoGBs
import Derived.WalkKit
import Derived.ProofKit
import Derived.OpenShut
import Derived.ShutString
import Derived.ChangeOld
import Derived.Below
import Derived.WalkSpells
import Derived.WalkLawsBesides
namespace Go.Proofs.YtnoagleifffkcaaGreatDoor.rt
open Lib (hid)
open Go.ChangeShapes Go.WideShapes Go.ChangeAt Go.RowKit
open chars (inR)
set_option linter.unusedVariables false
theorem eq_facts{x c:Int}(h:x=c):(x==c)=true∧(x !=c)=false:=by subst h;simp
theorem ne_facts{x c:Int}(h:¬x=c):(x==c)=false∧(x !=c)=true:=by simp[h]
def isExpr(k:Int):Bool:=inR k 1 15
def isStmt(k:Int):Bool:=inR k 20 34
def isItem(k:Int):Bool:=inR k 40 44
def isLval(k:Int):Bool:=k==1||(k==5||k==6)
theorem spec_isExpr(n:Int)(w:World):Calls Tryz.prog 29 #[.int .i64 n] w fun e w'=>e= .returned (.bool (isExpr n))∧w=w':=by
 go_enter Tryz.func29,Tryz.ntmps29
 go_wp2_with fail
 refine(chars.spec_in n 1 15 w).mono ?_
 rintro e w' ⟨rfl,rfl⟩
 go_wp2
 go_ret
 exact⟨rfl,rfl⟩
theorem impl_isExpr(n:Int)(w:World):Calls Tryz.prog 51 #[.int .i64 n] w fun e w'=>e= .returned (.bool (isExpr n))∧w=w':=by
 by_cases h1:1≤n
 ·have HE:=hid (show isExpr n=decide (n≤15) by simp[isExpr,inR,h1])
  go_enter Tryz.func51,Tryz.ntmps51
  go_wp2
  go_ret
  exact⟨by rw[HE.out];rfl,rfl⟩
 ·have HE:=hid (show isExpr n=false by simp[isExpr,inR,h1])
  go_enter Tryz.func51,Tryz.ntmps51
  go_wp2
  go_ret
  exact⟨by rw[HE.out];rfl,rfl⟩
theorem spec_isStmt(n:Int)(w:World):Calls Tryz.prog 99 #[.int .i64 n] w fun e w'=>e= .returned (.bool (isStmt n))∧w=w':=by
 go_enter Tryz.func99,Tryz.ntmps99
 go_wp2_with fail
 refine(chars.spec_in n 20 34 w).mono ?_
 rintro e w' ⟨rfl,rfl⟩
 go_wp2
 go_ret
 exact⟨rfl,rfl⟩
theorem impl_isStmt(n:Int)(w:World):Calls Tryz.prog 197 #[.int .i64 n] w fun e w'=>e= .returned (.bool (isStmt n))∧w=w':=by
 by_cases h1:20≤n
 ·have HE:=hid (show isStmt n=decide (n≤34) by simp[isStmt,inR,h1])
  go_enter Tryz.func197,Tryz.ntmps197
  go_wp2
  go_ret
  exact⟨by rw[HE.out];rfl,rfl⟩
 ·have HE:=hid (show isStmt n=false by simp[isStmt,inR,h1])
  go_enter Tryz.func197,Tryz.ntmps197
  go_wp2
  go_ret
  exact⟨by rw[HE.out];rfl,rfl⟩
theorem impl_isItem(n:Int)(w:World):Calls Tryz.prog 198 #[.int .i64 n] w fun e w'=>e= .returned (.bool (isItem n))∧w=w':=by
 by_cases h1:40≤n
 ·have HE:=hid (show isItem n=decide (n≤44) by simp[isItem,inR,h1])
  go_enter Tryz.func198,Tryz.ntmps198
  go_wp2
  go_ret
  exact⟨by rw[HE.out];rfl,rfl⟩
 ·have HE:=hid (show isItem n=false by simp[isItem,inR,h1])
  go_enter Tryz.func198,Tryz.ntmps198
  go_wp2
  go_ret
  exact⟨by rw[HE.out];rfl,rfl⟩
theorem spec_isLval(n:Int)(w:World):Calls Tryz.prog 98 #[.int .i64 n] w fun e w'=>e= .returned (.bool (isLval n))∧w=w':=by
 by_cases h1:n=1
 ·subst h1
  go_enter Tryz.func98,Tryz.ntmps98
  go_wp2
  go_ret
  exact⟨rfl,rfl⟩
 by_cases h2:n=5
 ·subst h2
  go_enter Tryz.func98,Tryz.ntmps98
  go_wp2
  go_ret
  exact⟨rfl,rfl⟩
 obtain⟨d1,-⟩:=ne_facts h1
 obtain⟨d2,-⟩:=ne_facts h2
 have HE:=hid (show isLval n=(n==6) by unfold isLval;rw[d1,d2];rfl)
 clear h1 h2
 go_enter Tryz.func98,Tryz.ntmps98
 go_wp2
 go_ret
 exact⟨by rw[HE.out];rfl,rfl⟩
theorem impl_isLval(n:Int)(w:World):Calls Tryz.prog 203 #[.int .i64 n] w fun e w'=>e= .returned (.bool (isLval n))∧w=w':=by
 by_cases h1:n=1
 ·subst h1
  go_enter Tryz.func203,Tryz.ntmps203
  go_wp2
  go_ret
  exact⟨rfl,rfl⟩
 by_cases h2:n=5
 ·subst h2
  go_enter Tryz.func203,Tryz.ntmps203
  go_wp2
  go_ret
  exact⟨rfl,rfl⟩
 obtain⟨d1,-⟩:=ne_facts h1
 obtain⟨d2,-⟩:=ne_facts h2
 have HE:=hid (show isLval n=(n==6) by unfold isLval;rw[d1,d2];rfl)
 clear h1 h2
 go_enter Tryz.func203,Tryz.ntmps203
 go_wp2
 go_ret
 exact⟨by rw[HE.out];rfl,rfl⟩
end Go.Proofs.YtnoagleifffkcaaGreatDoor.rt
