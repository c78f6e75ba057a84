/-

-/
import Derived.Test.YtnoagleifffkcaaGreatDoorZoGPm
import Derived.Test.YtnoagleifffkcaaGreatDoorZoNest
import Derived.Test.YtnoagleifffkcaaGreatDoorZoGLx
import Derived.Test.YtnoagleifffkcaaGreatDoorZoGDp
namespace Go.Proofs.YtnoagleifffkcaaGreatDoor.pe
open Go.RowKit
open nd (Nd depthF)
open tk (Tk)
open ps (Ps posOk)
open tksok (tokensOk)
set_option linter.unusedVariables false
set_option linter.unusedSimpArgs false
def ta(l:List Tk)(i:Nat):Int:=(l[i]?.map (·.a)).getD 0
def place(l:List Tk)(i:Nat):Int:=
 if i<l.length then ta l i else if l.length=0 then 0 else wrap64 (ta l (l.length-1)+((tx l (l.length-1)).size:Int))
def tf(l:List Tk):Int×Int:=if tokensOk l=true then(if 0≤pb.nestOf l then(4,place l (pb.nestOf l).toNat)else(0,0))else(2,0)
def sf(t:List Nd):Int×Int:=if 400<t.length then(1,0)else if 40<depthF t then(4,0)else(0,0)
structure Out where
 t:List Nd
 n:Nat
 k:Int
 a:Int
def finish(l:List Tk):R→Out
 | .bad j=>⟨[],0,3,place l j⟩
 | .ok _ _ t j=>if(sf t).1=0 then⟨t,j,0,0⟩else⟨[],0,(sf t).1,(sf t).2⟩
def parse(l:List Tk)(p:Ps):Out:=
 if posOk p.l p.d=true then
  (if(tf l).1=0 then finish l (ex l (l.length+1) p 0)else⟨[],0,(tf l).1,(tf l).2⟩)
 else⟨[],0,3,0⟩
end Go.Proofs.YtnoagleifffkcaaGreatDoor.pe
