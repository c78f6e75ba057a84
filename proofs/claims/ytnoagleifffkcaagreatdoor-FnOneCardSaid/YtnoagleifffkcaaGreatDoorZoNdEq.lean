/-

-/
import Derived.Test.YtnoagleifffkcaaGreatDoorZoGNd
import Derived.Lib.QuietBelow
namespace Go.Proofs.YtnoagleifffkcaaGreatDoor.nd
open Lib (hid)
open Go.ChangeShapes Go.WideShapes Go.ChangeAt Go.RowKit
set_option linter.unusedVariables false
theorem eq_facts{x c:Int}(h:x=c):(x==c)=true∧(x !=c)=false:=by subst h;simp
theorem ne_facts{x c:Int}(h:¬x=c):(x==c)=false∧(x !=c)=true:=by simp[h]
theorem str_eq{x y:ByteArray}(h:x=y):(x.toList==y.toList)=true∧(x.toList !=y.toList)=false:=by subst h;simp
theorem str_ne{x y:ByteArray}(h:¬x=y):(x.toList==y.toList)=false∧(x.toList !=y.toList)=true:=by
 have:(x.toList==y.toList)=false:=by
  rw[beq_eq_false_iff_ne,ByteArray.toList_eq,ByteArray.toList_eq]
  intro e
  exact h (ByteArray.ext (Array.toList_inj.1 e))
 exact⟨this,by rw[bne,this];rfl⟩
theorem take_step{α:Type}{l m:List α}{I:Nat}(h:I<l.length)(hlen:l.length=m.length)(ht:l.take I=m.take I)(he:l[I]=m[I]'(hlen▸h)):l.take (I+1)=m.take (I+1):=by
 rw[List.take_succ_eq_append_getElem h,List.take_succ_eq_append_getElem (hlen▸h),ht,he]
theorem at_ne{α:Type}{l m:List α}{I:Nat}(h:I<l.length)(hlen:l.length=m.length)(he:¬l[I]=m[I]'(hlen▸h)):¬l=m:=by
 intro e;subst e;exact he rfl
theorem take_all{α:Type}{l m:List α}{I:Nat}(h:I=l.length)(hlen:l.length=m.length)(ht:l.take I=m.take I):l=m:=by
 rw[List.take_of_length_le (by omega),List.take_of_length_le (by omega)]at ht
 exact ht
def RelEqI(B:Nat)(W:World)(l m:List Int)(i:Value)(wr:World):Prop:=
 ∃I q:Nat,I≤l.length∧i= .int .i64 (I:Int)∧wr=W.drewN q∧l.take I=m.take I
theorem drewN_zero(w:World):w=w.drewN 0:=by cases w;rfl
set_option maxHeartbeats 1600000 in
theorem spec_ints_q(l m:List Int)(a a':Option Addr)(cap cap':Nat)(w:World)(hn:l.length≤1048576)(hn':m.length≤1048576)(hc:Ints w.heap.size w a l)(hc':Ints w.heap.size w a' m):
  Calls Tryz.prog 34 #[.slice a l.length cap,.slice a' m.length cap'] w fun e w'=>e= .returned (.bool (decide (l=m)))∧∃q,w'=w.drewN q:=by
 have HC:=hid hc
 have HC':=hid hc'
 clear hc hc'
 by_cases hlen:l.length=m.length
 ·have HLEN:=hid hlen
  obtain⟨n,hln⟩:∃n,n=l.length:=⟨_,rfl⟩
  have HLN:=hid hln
  rw[←hlen,←hln]
  rw[←hln]at hn
  have hd:(((n:Int)) !=(n:Int))=false:=by simp
  clear hlen hn' hln
  go_enter Tryz.func34,Tryz.ntmps34
  go_wp2
  go_loopw [5] (fun i wr=>RelEqI w.heap.size w l m i wr) (fun i _=>n-(intOf i).toNat)
  case atStart=>exact⟨0,0,by omega,rfl,drewN_zero _,by simp⟩
  case round=>
   obtain⟨I,q,hI,rfl,rfl,htk⟩:=hrel
   have HT:=hid htk
   rw[←HLN.out]at hI
   clear htk
   by_cases hlt:I<n
   ·have j:I<l.length:=by have:=HLN.out;omega
    have F:I<m.length:=by have:=HLEN.out;omega
    obtain⟨b,o,rfl,hb,hcell⟩:=ints_at HC.out j
    obtain⟨b',o',rfl,hb',hcell'⟩:=ints_at HC'.out F
    have c0:=hcell I j
    have d0:=hcell' I F
    obtain⟨x,hx⟩:∃x,x=l[I]:=⟨_,rfl⟩
    obtain⟨y,hy⟩:∃y,y=m[I]:=⟨_,rfl⟩
    rw[←hx]at c0
    rw[←hy]at d0
    have HXE:=hid hx
    have HYE:=hid hy
    have G:(I:Int)<(n:Int):=by omega
    have J:(0:Int)≤(I:Int):=by omega
    clear hx hy hcell hcell'
    by_cases hk:x=y
    ·obtain⟨k1,k2⟩:=eq_facts hk
     have HS:=hid (take_step j HLEN.out HT.out (by rw[←HXE.out,←HYE.out];exact hk))
     clear hk
     go_wp2
     go_quiet (fail)
     go_wp2
     go_roundw
     case rel=>exact⟨I+1,_,by have:=HLN.out;omega,by go_num,rfl,HS.out⟩
     case measure=>simp[intOf];omega
    ·obtain⟨k1,k2⟩:=ne_facts hk
     have HS:=hid (show decide (l=m)=false from decide_eq_false (at_ne j HLEN.out (fun e=>by rw[←HXE.out,←HYE.out]at e;exact hk e)))
     clear hk
     go_wp2
     go_quiet (fail)
     go_wp2
     go_ret
     exact⟨by rw[HS.out];rfl,_,World.drewN_drewN _ _ _⟩
   ·have HS:=hid (show decide (l=m)=true from decide_eq_true (take_all (I:=I) (by have:=HLN.out;omega) HLEN.out HT.out))
    go_wp2
    go_ret
    exact⟨by rw[HS.out];rfl,_,rfl⟩
 ·have HS:=hid (show decide (l=m)=false from decide_eq_false (fun e=>hlen (by rw[e])))
  have hd:(((l.length:Int)) !=(m.length:Int))=true:=by simp;omega
  clear hlen
  go_enter Tryz.func34,Tryz.ntmps34
  go_wp2
  go_ret
  exact⟨by rw[HS.out];rfl,0,drewN_zero _⟩
theorem nd_ne{x y:Nd}(h:¬(x.k=y.k∧x.op=y.op∧x.s=y.s∧x.t=y.t∧x.kids=y.kids)):decide (x=y)=false:=decide_eq_false (fun e=>h (by subst e;exact⟨rfl,rfl,rfl,rfl,rfl⟩))
theorem nd_eq{x y:Nd}(h:x.k=y.k∧x.op=y.op∧x.s=y.s∧x.t=y.t):decide (x=y)=decide (x.kids=y.kids):=by
 obtain⟨k,op,s,t,l⟩:=x
 obtain⟨k',op',s',t',l'⟩:=y
 obtain⟨h1,h2,h3,h4⟩:=h
 simp only at h1 h2 h3 h4
 subst h1 h2 h3 h4
 simp
structure Two(B:Nat)(w:World)(b o:Nat)(x:Nd)(a:Option Addr)(cap:Nat)(b' o':Nat)(y:Nd)(a':Option Addr)(cap':Nat)(W:World):Prop where
 x5:Five W b o x a cap
 y5:Five W b' o' y a' cap'
 xi:Ints B W a x.kids
 yi:Ints B W a' y.kids
 bel:Below B w W
 le:B≤W.heap.size
theorem Two.drew{B:Nat}{w W:World}{b o b' o':Nat}{x y:Nd}{a a':Option Addr}{cap cap':Nat}(h:Two B w b o x a cap b' o' y a' cap' W):Two B w b o x a cap b' o' y a' cap' W.drew:=
 ⟨h.x5,h.y5,h.xi,h.yi,h.bel.drew,h.le⟩
theorem Two.keep{B:Nat}{w W w1:World}{b o b' o':Nat}{x y:Nd}{a a':Option Addr}{cap cap':Nat}(hb:b<B)(hb':b'<B)(h:Two B w b o x a cap b' o' y a' cap' W)(hk:Below W.heap.size W w1):Two B w b o x a cap b' o' y a' cap' w1:=
 ⟨h.x5.keep hk (Nat.lt_of_lt_of_le hb h.le),h.y5.keep hk (Nat.lt_of_lt_of_le hb' h.le),h.xi.keep hk h.le,h.yi.keep hk h.le,h.bel.trans (hk.mono h.le),Nat.le_trans h.le hk.size⟩
def RelEqN(B:Nat)(W:World)(l m:List Nd)(i:Value)(wr:World):Prop:=
 ∃I:Nat,I≤l.length∧i= .int .i64 (I:Int)∧Below B W wr∧l.take I=m.take I
end Go.Proofs.YtnoagleifffkcaaGreatDoor.nd
