/-

-/
import Derived.Test.YtnoagleifffkcaaGreatDoorZoGNd
import Derived.Test.YtnoagleifffkcaaGreatDoorZoNdEq
namespace Go.Proofs.YtnoagleifffkcaaGreatDoor.nd
open Go.ChangeShapes Go.WideShapes Go.ChangeAt Go.RowKit
set_option linter.unusedVariables false
def shK(by_:Int)(l:List Int):List Int:=l.map (fun k=>wrap64 (k+by_))
theorem shK_len(x:Int)(l:List Int):(shK x l).length=l.length:=by simp[shK]
theorem shK_step(x:Int){l:List Int}{J:Nat}(h:J<l.length):shK x (l.take (J+1))=shK x (l.take J)++[wrap64 (l[J]+x)]:=by
 unfold shK
 rw[List.take_succ_eq_append_getElem h,List.map_append]
 rfl
def shN(x:Int)(n:Nd):Nd:={n with kids:=shK x n.kids}
def RelSi(B:Nat)(W:World)(x:Int)(l:List Int)(v i:Value)(wr:World):Prop:=
 ∃J:Nat,J≤l.length∧OwnI B v (shK x (l.take J)) wr∧i= .int .i64 (J:Int)∧Below B W wr
end Go.Proofs.YtnoagleifffkcaaGreatDoor.nd
