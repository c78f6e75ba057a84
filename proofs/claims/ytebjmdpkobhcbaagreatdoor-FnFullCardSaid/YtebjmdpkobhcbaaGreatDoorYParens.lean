/- A part of the proof; no condition of its own. -/
import Derived.Test.YtebjmdpkobhcbaaGreatDoorYTk
namespace Go.Proofs.YtebjmdpkobhcbaaGreatDoor.pb
open Lib (hid)
open Go.ChangeShapes Go.WideShapes Go.ChangeAt Go.RowKit
open tk
set_option linter.unusedVariables false
def pk(l:List Tk)(I:Nat):Int:=if I=0 then 0 else(l.getD (I-1) default).k
def one(k p:Int):Nat:=if k=32∧¬p=7∧¬p=8 then 1 else 0
def pc(l:List Tk):Nat→Nat
 |0=>0
 |I+1=>pc l I+one (l.getD I default).k (pk l I)
theorem pc_le(l:List Tk):∀I,pc l I≤I:=by
 intro I
 induction I with
 |zero=>exact Nat.le_refl _
 |succ I ih=>
  have:one (l.getD I default).k (pk l I)≤1:=by unfold one;split<;>omega
  show pc l I+_≤_
  omega
theorem pc_step{l:List Tk}{I:Nat}(h:I<l.length):pc l (I+1)=pc l I+one l[I].k (pk l I):=by
 show pc l I+_=_
 rw[List.getD_eq_getElem?_getD,List.getElem?_eq_getElem h]
 rfl
theorem pk_next{l:List Tk}{I:Nat}(h:I<l.length):pk l (I+1)=l[I].k:=by
 unfold pk
 rw[if_neg (by omega),Nat.add_sub_cancel,List.getD_eq_getElem?_getD,List.getElem?_eq_getElem h]
 rfl
theorem one_no{k p:Int}(h:¬k=32):one k p=0:=if_neg fun e=>h e.1
theorem one_f{k:Int}:one k 7=0:=if_neg fun e=>e.2.1 rfl
theorem one_b{k:Int}:one k 8=0:=if_neg fun e=>e.2.2 rfl
theorem one_yes{p:Int}(h1:¬p=7)(h2:¬p=8):one 32 p=1:=if_pos ⟨rfl,h1,h2⟩
def RelSp(w:World)(l:List Tk)(n i:Value)(wr:World):Prop:=
 ∃I:Nat,I≤l.length∧i= .int .i64 (I:Int)∧n= .int .i64 (pc l I:Int)∧Below w.heap.size w wr
def RelIp(w:World)(l:List Tk)(n p i:Value)(wr:World):Prop:=
 ∃I:Nat,I≤l.length∧i= .int .i64 (I:Int)∧n= .int .i64 (pc l I:Int)∧p= .int .i64 (pk l I)∧Below w.heap.size w wr
set_option maxHeartbeats 1600000 in
theorem impl_parens(l:List Tk)(a:Option Addr)(cap:Nat)(w:World)(hn:l.length≤1048576)(hc:Lies w.heap.size w a l):
  Calls Tryz.prog 21 #[.slice a l.length cap] w fun e w'=>e= .returned (.int .i64 (pc l l.length:Int))∧Below w.heap.size w w':=by
 have HC:=hid hc
 clear hc
 obtain⟨n,hln⟩:∃n,n=l.length:=⟨_,rfl⟩
 have HLN:=hid hln
 rw[←hln]
 rw[←hln]at hn
 clear hln
 go_enter Tryz.func21,Tryz.ntmps21
 go_wp2
 go_loopw [3,4,9] (fun m p i wr=>RelIp w l m p i wr) (fun _ _ i _=>n-(intOf i).toNat)
 case atStart=>exact⟨0,by omega,rfl,rfl,rfl,Below.refl _ _⟩
 case round=>
  obtain⟨I,hI,rfl,rfl,rfl,hbel⟩:=hrel
  have HB:=hid hbel
  rw[←HLN.out]at hI
  clear hbel
  have hpl:=pc_le l I
  obtain⟨P,hP⟩:∃P,P=pc l I:=⟨_,rfl⟩
  obtain⟨q,hq⟩:∃q,q=pk l I:=⟨_,rfl⟩
  rw[←hP]at hpl⊢
  rw[←hq]
  have HP:=hid hP
  have HQ:=hid hq
  clear hP hq
  by_cases hlt:I<n
  ·have hltl:I<l.length:=by have:=HLN.out;omega
   obtain⟨b,o,rfl,hb,hcell⟩:=lies_at HC.out hltl
   obtain⟨c0,c1,c2⟩:=(hcell I hltl).keep HB.out hb
   have HST:=hid (pc_step hltl)
   have HNX:=hid (pk_next hltl)
   obtain⟨t,ht⟩:∃t,t=l[I]:=⟨_,rfl⟩
   rw[←ht]at c0 c1 c2 HST HNX
   clear hcell ht
   have h:(I:Int)<(n:Int):=by omega
   go_wp2
   all_goals
    go_roundw
    case rel=>
     refine⟨I+1,by have:=HLN.out;omega,by go_num, ?_,by first|(rw[HNX.out];done)|(rw[HNX.out];simp_all),HB.trans ((Below.refl _ _).alloc HB.size _)⟩
     rw[HST.out,←HP.out,←HQ.out]
     simp_all[one]
    case measure=>simp[intOf];omega
  ·obtain rfl:I=n:=by omega
   go_wp2
   go_ret
   exact⟨by rw[HP.out];rfl,HB.out⟩
end Go.Proofs.YtebjmdpkobhcbaaGreatDoor.pb
