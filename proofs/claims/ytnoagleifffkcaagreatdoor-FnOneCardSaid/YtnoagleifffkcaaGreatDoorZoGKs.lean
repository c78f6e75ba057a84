/-

-/
import Derived.Test.YtnoagleifffkcaaGreatDoorZoGKd
import Derived.Deep.CutRange
import Derived.Deep.CutBlock
import Derived.Deep.DeepCutAuto
namespace Go.Proofs.YtnoagleifffkcaaGreatDoor.ps
open Go.ChangeShapes Go.WideShapes Go.ChangeAt Go.RowKit
open chars (inR)
open lv (levelOf opLevel box_below Bx)
set_option linter.unusedVariables false
set_option maxRecDepth 20000
def kidS(k op:Int)(n:Nat)(K L:Int)(d i g s:Bool):Ps:=
 if posOk L d=true∧0≤K∧K<(n:Int)∧¬levelOf k op=0 then
  (if k=15 then⟨if K=0 then 14 else 1,false,i,g,s&&K==0⟩
  else if k=14 then⟨if K=0 then 3 else 2,false,i,g,s&&K==0⟩
  else if k=13 then(if 1<n then top else⟨5,false,i,g,s&&K==0⟩)
  else if k=12 then⟨if K=0 then(sdS (opLevel op)).1 else(sdS (opLevel op)).2,false,i,g,if K=0 then s else op==99⟩
  else if k=11 then⟨11,false,i,g,false⟩
  else if k=9∨k=10 then⟨14,false,i,g,false⟩
  else if k=6 then⟨14,true,i,g,false⟩
  else top)
 else zero
theorem B5.other{q h:Nat}{L:Int}{d i g s:Bool}{w:World}(H:B5 q L d i g s w)(hne:q≠h)(j:Nat)(v:Value):B5 q L d i g s (w.setCell ⟨h,j,none⟩ v):=(Below.heap_setCell w ⟨h,j,none⟩ v q hne).trans H
end Go.Proofs.YtnoagleifffkcaaGreatDoor.ps

namespace Go.Proofs.YtnoagleifffkcaaGreatDoor.ps
open Go.ChangeShapes Go.WideShapes Go.ChangeAt Go.RowKit
open chars (inR)
open lv (levelOf opLevel box_below Bx)
set_option linter.unusedVariables false
set_option maxRecDepth 20000
end Go.Proofs.YtnoagleifffkcaaGreatDoor.ps

namespace Go.Proofs.YtnoagleifffkcaaGreatDoor.ps
open Go.ChangeShapes Go.WideShapes Go.ChangeAt Go.RowKit
open chars (inR)
open lv (levelOf opLevel box_below Bx)
set_option linter.unusedVariables false
set_option maxRecDepth 20000
end Go.Proofs.YtnoagleifffkcaaGreatDoor.ps

namespace Go.Proofs.YtnoagleifffkcaaGreatDoor.ps
open Go.ChangeShapes Go.WideShapes Go.ChangeAt Go.RowKit
open chars (inR)
open lv (levelOf opLevel box_below Bx)
set_option linter.unusedVariables false
set_option maxRecDepth 20000
end Go.Proofs.YtnoagleifffkcaaGreatDoor.ps

namespace Go.Proofs.YtnoagleifffkcaaGreatDoor.ps
open Go.ChangeShapes Go.WideShapes Go.ChangeAt Go.RowKit
open chars (inR)
open lv (levelOf opLevel box_below Bx)
set_option linter.unusedVariables false
set_option maxRecDepth 20000
theorem sd_eq(op:Int)(h:¬opLevel op=0):sdI (opLevel op)=sdS (opLevel op):=by
 revert h
 unfold opLevel
 repeat' split
 all_goals first|(intro _;rfl)|(intro h;exact absurd rfl h)
theorem other_level{k op:Int}(h:¬k=15∧¬k=14∧¬k=13∧¬k=12∧¬k=11∧¬k=9∧¬k=10∧¬k=6)(h0:¬levelOf k op=0):levelOf k op=15:=by
 revert h0
 unfold levelOf
 obtain⟨y,j,e,F,G,h9,I,h6⟩:=h
 rw[if_neg y,if_neg j,if_neg e,if_neg F,if_neg G,if_neg (by omega),if_neg h6]
 split
 ·intro _;rfl
 ·intro h;exact absurd rfl h
theorem kid_same(k op:Int)(n:Nat)(K L:Int)(d i g s:Bool)(h:k=12→op=99→K<2):kidI k op n K L d i g s=kidS k op n K L d i g s:=by
 unfold kidI kidS
 by_cases hv:posOk L d=true∧0≤K∧K<(n:Int)∧¬levelOf k op=0
 rotate_left
 ·rw[if_neg hv,if_neg hv]
 rw[if_pos hv,if_pos hv]
 obtain⟨-,hK,-,h0⟩:=hv
 have hc:(K==0&&s)=(s&&K==0):=Bool.and_comm _ _
 by_cases h15:k=15
 ·subst h15;simp[brk,levelOf,lvls,nsI,hc]
 by_cases h14:k=14
 ·subst h14;simp[brk,levelOf,lvls,nsI,hc]
 by_cases h13:k=13
 ·subst h13
  by_cases h1:1<n
  ·simp[brk,levelOf,h1]
  ·simp[brk,levelOf,lvls,nsI,h1,hc]
 by_cases h12:k=12
 ·subst h12
  have hr:=lv.lev_range op
  have hl:levelOf 12 op=opLevel op:=by simp[levelOf]
  rw[hl]at h0
  have hb:brk 12 op n=false:=by
   have:¬opLevel op=15:=by omega
   simp[brk,hl,this]
  have hs:lvls 12 op=sdS (opLevel op):=by rw[←sd_eq op h0];simp[lvls]
  rw[hb,hs]
  simp only[nsI]
  by_cases hz:K=0
  ·subst hz;simp
  ·by_cases ho:op=99
   ·have h1:K=1:=by have:=h rfl ho;omega
    subst h1;subst ho;simp
   ·have e1:(K==0)=false:=by simp[hz]
    have e2:(op==99)=false:=by simp[ho]
    simp[hz,ho,e1,e2]
 by_cases h11:k=11
 ·subst h11;simp[brk,levelOf,lvls,nsI]
 by_cases h9:k=9
 ·subst h9;simp[brk,levelOf,lvls,nsI]
 by_cases h10:k=10
 ·subst h10;simp[brk,levelOf,lvls,nsI]
 by_cases h6:k=6
 ·subst h6;simp[brk,levelOf,lvls,nsI]
 have h:=other_level (op:=op) ⟨h15,h14,h13,h12,h11,h9,h10,h6⟩ h0
 simp[brk,h,h15,h14,h13,h12,h11,h9,h10,h6]
theorem sdS_range(v:Int):(1≤(sdS v).1∧(sdS v).1≤15)∧1≤(sdS v).2∧(sdS v).2≤15:=by
 unfold sdS
 repeat' split
 all_goals decide
theorem ok_of{L:Int}(h1:1≤L)(h2:L≤15):posOk L false=true:=by simp[posOk,inR,h1,h2]
theorem kid_good(k op:Int)(n:Nat)(K L:Int)(d i g s:Bool)(hv:posOk L d=true∧0≤K∧K<(n:Int)∧¬levelOf k op=0):posOk (kidS k op n K L d i g s).l (kidS k op n K L d i g s).d=true∧(kidS k op n K L d i g s=top∨(kidS k op n K L d i g s).i=i∧(kidS k op n K L d i g s).g=g):=by
 unfold kidS
 rw[if_pos hv]
 have hr:=sdS_range (opLevel op)
 split
 ·refine⟨?_,.inr ⟨rfl,rfl⟩⟩
  by_cases hz:K=0<;>simp[hz,posOk,inR]
 split
 ·refine⟨?_,.inr ⟨rfl,rfl⟩⟩
  by_cases hz:K=0<;>simp[hz,posOk,inR]
 split
 ·split
  ·exact⟨by simp[top,posOk,inR],.inl rfl⟩
  ·exact⟨by simp[posOk,inR],.inr ⟨rfl,rfl⟩⟩
 split
 ·refine⟨?_,.inr ⟨rfl,rfl⟩⟩
  by_cases hz:K=0
  ·simp only[hz,if_true];exact ok_of hr.1.1 hr.1.2
  ·simp only[hz,if_false];exact ok_of hr.2.1 hr.2.2
 split
 ·exact⟨by simp[posOk,inR],.inr ⟨rfl,rfl⟩⟩
 split
 ·exact⟨by simp[posOk,inR],.inr ⟨rfl,rfl⟩⟩
 split
 ·exact⟨by simp[posOk,inR],.inr ⟨rfl,rfl⟩⟩
 ·exact⟨by simp[top,posOk,inR],.inl rfl⟩
end Go.Proofs.YtnoagleifffkcaaGreatDoor.ps
