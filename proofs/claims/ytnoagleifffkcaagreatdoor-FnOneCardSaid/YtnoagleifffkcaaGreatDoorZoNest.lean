/-

-/
import Derived.Test.YtnoagleifffkcaaGreatDoorZoBareC
namespace Go.Proofs.YtnoagleifffkcaaGreatDoor.pb
open Lib (hid)
open Go.ChangeShapes Go.WideShapes Go.ChangeAt Go.RowKit
open tk
set_option linter.unusedVariables false
set_option linter.unusedSimpArgs false
set_option maxRecDepth 20000
def nxt(k:Int)(d:Nat):Nat:=if opB k=true then d+1 else if clB k=true then d-1 else d
def nestF:List Tk→Nat→Nat→Int
 |[],_,_=> -1
 |t::r,d,i=>if 40<nxt t.k d then(i:Int)else nestF r (nxt t.k d) (i+1)
def nestOf(l:List Tk):Int:=nestF l 0 0
theorem nest_end(l:List Tk)(d i:Nat):nestF (l.drop l.length) d i= -1:=by rw[List.drop_length];rfl
theorem nest_hit{l:List Tk}{d I:Nat}(h:I<l.length)(h1:40<nxt l[I].k d):nestF (l.drop I) d I=(I:Int):=by
 rw[List.drop_eq_getElem_cons h]
 unfold nestF
 rw[if_pos h1]
theorem nest_on{l:List Tk}{d I:Nat}(h:I<l.length)(h1:¬40<nxt l[I].k d):nestF (l.drop I) d I=nestF (l.drop (I+1)) (nxt l[I].k d) (I+1):=by
 rw[List.drop_eq_getElem_cons h]
 conv=>lhs;unfold nestF
 rw[if_neg h1]
def RelNe(w:World)(l:List Tk)(d i:Value)(wr:World):Prop:=
 ∃(I D:Nat),I≤l.length∧i= .int .i64 (I:Int)∧d= .int .i64 (D:Int)∧D≤40∧nestF (l.drop I) D I=nestOf l∧Below w.heap.size w wr
set_option maxHeartbeats 1600000 in
theorem impl_nestOf(l:List Tk)(a:Option Addr)(cap:Nat)(w:World)(hn:l.length≤1048576)(hc:Lies w.heap.size w a l):
  Calls Tryz.prog 32 #[.slice a l.length cap] w fun e w'=>e= .returned (.int .i64 (nestOf l))∧Below w.heap.size w w':=by
 have HC:=hid hc
 clear hc
 obtain⟨n,hln⟩:∃n,n=l.length:=⟨_,rfl⟩
 have HLN:=hid hln
 rw[←hln]
 rw[←hln]at hn
 clear hln
 go_enter Tryz.func32,Tryz.ntmps32
 go_wp2
 go_loopw [3,8] (fun d i wr=>RelNe w l d i wr) (fun _ i _=>n-(intOf i).toNat)
 case atStart=>exact⟨0,0,by omega,rfl,rfl,by omega,rfl,Below.refl _ _⟩
 case round=>
  obtain⟨I,D,hI,rfl,rfl,F,hbr,hbel⟩:=hrel
  have HB:=hid hbel
  have HBR:=hid hbr
  rw[←HLN.out]at hI
  clear hbel hbr
  by_cases hlt:I<n
  ·have hltl:I<l.length:=by have:=HLN.out;omega
   obtain⟨b,o,rfl,hb,hcell⟩:=lies_at HC.out hltl
   obtain⟨c0,c1,c2⟩:=(hcell I hltl).keep HB.out hb
   have HIT:=hid (fun h1=>nest_hit (d:=D) hltl h1)
   have HON:=hid (fun h1=>nest_on (d:=D) hltl h1)
   obtain⟨t,ht⟩:∃t,t=l[I]:=⟨_,rfl⟩
   rw[←ht]at c0 c1 c2 HIT HON
   clear hcell ht
   have y:(I:Int)<(n:Int):=by omega
   have j:=hid (show Below w.heap.size w (wr.alloc (.cells #[.int .i64 t.k,.string t.s,.int .i64 t.a] 75))from HB.trans ((Below.refl _ _).alloc HB.size _))
   obtain⟨X,hX⟩:∃X,nxt t.k D=X:=⟨_,rfl⟩
   rw[hX]at HIT HON
   rw[HBR.out]at HIT HON
   have HREL:=hid (show¬40<X→∀wr',Below w.heap.size w wr'→RelNe w l (.int .i64 (X:Int)) (.int .i64 ((I:Int)+1)) wr' from fun h wr' hb'=>⟨I+1,X,by have:=HLN.out;omega,by go_num,rfl,by omega,(HON.out h).symm,hb'⟩)
   obtain⟨C,hC⟩:∃C,clB t.k=C:=⟨_,rfl⟩
   obtain⟨O,hO⟩:∃O,opB t.k=O:=⟨_,rfl⟩
   have hboth:= @both t.k
   have hnest:nest t.k=if O=true then 1 else if C=true then-1 else 0:=by unfold nest;rw[hC,hO]
   unfold nxt at hX
   rw[hC,hO]at hX hboth
   have HCC:=hid hC
   have HOO:=hid hO
   have HNN:=hid hnest
   clear hC hO hnest
   cases O<;>cases C
   case true.true=>exact absurd (hboth rfl) (by decide)
   all_goals
    simp only[if_pos,if_neg,reduceIte,Bool.false_eq_true]at hX HNN
    clear hboth
   ·subst hX
    by_cases hbig:40<D
    ·exact absurd hbig (by omega)
    have HR:=hid (HREL.out hbig _ (j.out))
    have m0:max (D:Int) 0=(D:Int):=by omega
    have m1:¬(40:Int)<(D:Int):=by omega
    have m2:max ((D:Int)+0) 0=(D:Int):=by omega
    clear hbig
    go_wp2_with (first|(go_at_call 62;refine(impl_nest _ _).mono ?_;rw[HNN.out];rintro e w' ⟨rfl,rfl⟩))
    go_roundw
    case rel=>first|exact HR.out|(rw[show(if 0<D then(D:Int)else 0)=(D:Int) by split<;>omega];exact HR.out)|(rw[show(D:Int)+1+ -1=(D:Int) by omega];exact HR.out)
    case measure=>simp[intOf];omega
   ·cases D with
    |zero=>
     subst hX
     have HR:=hid (HREL.out (by omega) _ (j.out))
     go_wp2_with (first|(go_at_call 62;refine(impl_nest _ _).mono ?_;rw[HNN.out];rintro e w' ⟨rfl,rfl⟩))
     go_roundw
     case rel=>first|exact HR.out|(rw[show(if 0<D then(D:Int)else 0)=(D:Int) by split<;>omega];exact HR.out)|(rw[show(D:Int)+1+ -1=(D:Int) by omega];exact HR.out)
     case measure=>simp[intOf];omega
    |succ D=>
     simp only[Nat.add_sub_cancel]at hX
     subst hX
     have HR:=hid (HREL.out (by omega) _ (j.out))
     have e1:((D+1:Nat):Int)=(D:Int)+1:=by omega
     rw[e1]
     have m0:max (D:Int) 0=(D:Int):=by omega
     have m3:max (0:Int) (D:Int)=(D:Int):=by omega
     have m1:¬(40:Int)<(D:Int):=by omega
     have m2:max ((D:Int)+1+ -1) 0=(D:Int):=by omega
     have m4:max (0:Int) ((D:Int)+1-1)=(D:Int):=by omega
     go_wp2_with (first|(go_at_call 62;refine(impl_nest _ _).mono ?_;rw[HNN.out];rintro e w' ⟨rfl,rfl⟩))
     go_roundw
     case rel=>first|exact HR.out|(rw[show(if 0<D then(D:Int)else 0)=(D:Int) by split<;>omega];exact HR.out)|(rw[show(D:Int)+1+ -1=(D:Int) by omega];exact HR.out)
     case measure=>simp[intOf];omega
   ·subst hX
    have m2:max ((D:Int)+1) 0=(D:Int)+1:=by omega
    by_cases hbig:40<D+1
    ·have HE:=hid (HIT.out hbig)
     have m1:(40:Int)<(D:Int)+1:=by omega
     clear hbig
     go_wp2_with (first|(go_at_call 62;refine(impl_nest _ _).mono ?_;rw[HNN.out];rintro e w' ⟨rfl,rfl⟩))
     go_ret
     exact⟨by rw[HE.out];rfl,(j.out)⟩
    ·have HR:=hid (HREL.out hbig _ (j.out))
     have m1:¬(40:Int)<(D:Int)+1:=by omega
     clear hbig
     go_wp2_with (first|(go_at_call 62;refine(impl_nest _ _).mono ?_;rw[HNN.out];rintro e w' ⟨rfl,rfl⟩))
     go_roundw
     case rel=>first|exact HR.out|(rw[show(if 0<D then(D:Int)else 0)=(D:Int) by split<;>omega];exact HR.out)|(rw[show(D:Int)+1+ -1=(D:Int) by omega];exact HR.out)
     case measure=>simp[intOf];omega
  ·obtain rfl:I=n:=by omega
   have y:¬(I:Int)<(I:Int):=by omega
   have HE:=hid (show nestOf l= -1 by rw[←HBR.out,HLN.out];exact nest_end l D _)
   go_wp2
   go_ret
   exact⟨by rw[HE.out];rfl,HB.out⟩
end Go.Proofs.YtnoagleifffkcaaGreatDoor.pb
