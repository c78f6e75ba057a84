/-

-/
import Derived.Test.YtnoagleifffkcaaGreatDoorZoTk
namespace Go.Proofs.YtnoagleifffkcaaGreatDoor.pb
open Go.ChangeShapes Go.WideShapes Go.ChangeAt Go.RowKit
open tk
set_option linter.unusedVariables false
def clB(k:Int):Bool:=k==33||k==35||k==31
def opB(k:Int):Bool:=k==32||k==34||k==30
def clN(k:Int):Int:=if clB k=true then 1 else 0
def opN(k:Int):Int:=if opB k=true then 1 else 0
def bareF(q:Int):List Tk→Int→Bool
 |[],_=>false
 |t::r,d=>if t.k=q∧d-clN t.k=0 then true else bareF q r (d-clN t.k+opN t.k)
theorem both{k:Int}(h:opB k=true):clB k=false:=by
 simp only[opB,Bool.or_eq_true,beq_iff_eq]at h
 rcases h with (h|h)|h<;>subst h<;>rfl
def nest(k:Int):Int:=if opB k=true then 1 else if clB k=true then-1 else 0
theorem impl_nest(k:Int)(w:World):Calls Tryz.prog 62 #[.int .i64 k] w fun e w'=>e= .returned (.int .i64 (nest k))∧w=w':=by
 go_enter Tryz.func62,Tryz.ntmps62
 go_wp2
 all_goals
  go_ret
  exact⟨congrArg (fun b=>Ending.returned (Value.int .i64 b)) (by simp_all[nest,opB,clB]),rfl⟩
def RelBr(w:World)(l:List Tk)(q:Int)(d i:Value)(wr:World):Prop:=
 ∃(I:Nat) (D:Int),I≤l.length∧i= .int .i64 (I:Int)∧d= .int .i64 D∧ -(I:Int)≤D∧D≤(I:Int)∧bareF q (l.drop I) D=bareF q l 0∧Below w.heap.size w wr
end Go.Proofs.YtnoagleifffkcaaGreatDoor.pb
