/-

-/
import Derived.Test.YtnoagleifffkcaaGreatDoorRows
import Derived.Test.YtnoagleifffkcaaGreatDoorZoGBs
import Derived.WalkKit
import Derived.ProofKit
import Derived.OpenShut
import Derived.ShutString
import Derived.ChangeOld
import Derived.Below
import Derived.Laws.Rows
import Derived.WalkSpells
import Derived.WalkLawsBesides
namespace Go.Proofs.YtnoagleifffkcaaGreatDoor.operand
open Lib (hid)
open Go.ChangeShapes Go.WideShapes Go.ChangeAt Go.RowKit
set_option linter.unusedVariables false
def ends(n:Int):Bool:=n==3||n==4||n==5||n==6||n==8||n==33||n==35||n==51||n==52
theorem impl_ends(n:Int)(w:World):Calls Tryz.prog 107 #[.int .i64 n] w fun e w'=>e= .returned (.bool (ends n))∧w=w':=by
 obtain⟨v,hv⟩:∃v,v=ends n:=⟨_,rfl⟩
 rw[←hv]
 unfold ends at hv
 have HV:=hid hv
 clear hv
 go_enter Tryz.func107,Tryz.ntmps107
 go_wp2
 all_goals go_ret
 all_goals exact⟨by rw[HV.out];simp_all,rfl⟩
def begins(n:Int):Bool:=n==3||n==4||n==6||n==7||n==8||n==32||n==68
theorem spec_begins(n:Int)(w:World):Calls Tryz.prog 72 #[.int .i64 n] w fun e w'=>e= .returned (.bool (begins n))∧w=w':=by
 obtain⟨v,hv⟩:∃v,v=begins n:=⟨_,rfl⟩
 rw[←hv]
 unfold begins at hv
 have HV:=hid hv
 clear hv
 go_enter Tryz.func72,Tryz.ntmps72
 go_wp2
 all_goals go_ret
 all_goals exact⟨by rw[HV.out];simp_all,rfl⟩
end Go.Proofs.YtnoagleifffkcaaGreatDoor.operand
