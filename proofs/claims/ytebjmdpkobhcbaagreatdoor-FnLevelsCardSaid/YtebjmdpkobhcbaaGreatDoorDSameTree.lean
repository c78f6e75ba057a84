/- A part of the proof; no condition of its own. -/
import Derived.Test.YtebjmdpkobhcbaaGreatDoorDNdEq
namespace Go.Proofs.YtebjmdpkobhcbaaGreatDoor.nd
open Lib (hid)
open Go.ChangeShapes Go.WideShapes Go.ChangeAt Go.RowKit
set_option linter.unusedVariables false
def RelEF(B:Nat)(W:World)(l m:List Nd)(i:Value)(wr:World):Prop:=
 ∃I:Nat,I≤l.length∧i= .int .i64 (I:Int)∧Below B W wr∧l.take I=m.take I
set_option maxHeartbeats 3200000 in
theorem spec_same(l m:List Nd)(a a':Option Addr)(cap cap':Nat)(w:World)(hn:l.length≤1048576)(hn':m.length≤1048576)(hk:∀t∈l,t.kids.length≤1048576)(hk':∀t∈m,t.kids.length≤1048576)(hc:Lies w.heap.size w a l)(hc':Lies w.heap.size w a' m):
  Calls Tryz.prog 14 #[.slice a l.length cap,.slice a' m.length cap'] w fun e w'=>e= .returned (.bool (decide (l=m)))∧Below w.heap.size w w':=by
 have HC:=hid hc
 have HC':=hid hc'
 have HK:=hid hk
 have HK':=hid hk'
 clear hc hc' hk hk'
 by_cases hlen:l.length=m.length
 ·have HLEN:=hid hlen
  obtain⟨n,hln⟩:∃n,n=l.length:=⟨_,rfl⟩
  have HLN:=hid hln
  rw[←hlen,←hln]
  rw[←hln]at hn
  have hd:(((n:Int)) !=(n:Int))=false:=by simp
  clear hlen hn' hln
  go_enter Tryz.func14,Tryz.ntmps14
  go_wp2
  go_loopw [5] (fun i wr=>RelEF w.heap.size w l m i wr) (fun i _=>n-(intOf i).toNat)
  case atStart=>exact⟨0,by omega,rfl,Below.refl _ _,by simp⟩
  case round=>
   obtain⟨I,hI,rfl,hbel,htk⟩:=hrel
   have HB:=hid hbel
   have HT:=hid htk
   rw[←HLN.out]at hI
   clear hbel htk
   by_cases hlt:I<n
   ·have f:I<l.length:=by have:=HLN.out;omega
    have u:I<m.length:=by have:=HLEN.out;omega
    obtain⟨b,o,rfl,hb,hcell⟩:=lies_at HC.out f
    obtain⟨b',o',rfl,hb',hcell'⟩:=lies_at HC'.out u
    obtain⟨ax,cx,x5,xi⟩:=(hcell I f).keep HB.out (Nat.le_refl _) hb
    obtain⟨ay,cy,y5,yi⟩:=(hcell' I u).keep HB.out (Nat.le_refl _) hb'
    have HKX:=hid (HK.out l[I] (List.getElem_mem f))
    have HKY:=hid (HK'.out m[I] (List.getElem_mem u))
    obtain⟨x,hx⟩:∃x,x=l[I]:=⟨_,rfl⟩
    obtain⟨y,hy⟩:∃y,y=m[I]:=⟨_,rfl⟩
    rw[←hx]at x5 xi HKX
    rw[←hy]at y5 yi HKY
    have HXE:=hid hx
    have HYE:=hid hy
    have F:(I:Int)<(n:Int):=by omega
    have G:(0:Int)≤(I:Int):=by omega
    clear hx hy hcell hcell'
    have HXI:=hid (show∀q,Ints (wr.drewN q).heap.size (wr.drewN q) ax x.kids from fun q=>(xi.keep (below_drewN (Below.refl _ wr) q) HB.size).up HB.size)
    have HYI:=hid (show∀q,Ints (wr.drewN q).heap.size (wr.drewN q) ay y.kids from fun q=>(yi.keep (below_drewN (Below.refl _ wr) q) HB.size).up HB.size)
    obtain⟨c0,c1,c2,c3,c4⟩:=x5
    obtain⟨e0,e1,e2,e3,e4⟩:=y5
    clear xi yi
    by_cases h1:x.k=y.k
    ·obtain⟨d1,A⟩:=eq_facts h1
     by_cases h2:x.op=y.op
     ·obtain⟨d2,D⟩:=eq_facts h2
      by_cases h3:x.s=y.s
      ·obtain⟨d3,B⟩:=str_eq h3
       by_cases h4:x.t=y.t
       ·obtain⟨d4,C⟩:=str_eq h4
        have HQ:=nd_eq ⟨h1,h2,h3,h4⟩
        obtain⟨d,j⟩:∃d,decide (x.kids=y.kids)=d:=⟨_,rfl⟩
        rw[j]at HQ
        have HD:=hid j
        have HQ:=hid HQ
        have HCC:=hid (show∀q,Calls Tryz.prog 40 #[.slice ax x.kids.length cx,.slice ay y.kids.length cy] (wr.drewN q) (fun e w'=>e= .returned (.bool d)∧∃m,w'=(wr.drewN q).drewN m)from fun q=>by rw[←HD.out];exact spec_ints_q x.kids y.kids ax ay cx cy _ HKX.out HKY.out (HXI.out q) (HYI.out q))
        clear j
        cases d
        ·have HS:=hid (show decide (l=m)=false from decide_eq_false (at_ne f HLEN.out (by rw[←HXE.out,←HYE.out];exact of_decide_eq_false (HQ.out))))
         clear h1 h2 h3 h4
         go_wp2
         go_quiet (first|(go_at_call 40;exact Calls.quiet_of (HCC.out _)))
         have HBZ:=hid (below_drewN HB.out nq)
         go_wp2
         go_ret
         exact⟨by rw[HS.out];rfl,HBZ.out⟩
        ·have HS:=hid (take_step f HLEN.out HT.out (by rw[←HXE.out,←HYE.out];exact of_decide_eq_true (HQ.out)))
         clear h1 h2 h3 h4
         go_wp2
         go_quiet (first|(go_at_call 40;exact Calls.quiet_of (HCC.out _)))
         have HBZ:=hid (below_drewN HB.out nq)
         go_wp2
         go_roundw
         case rel=>exact⟨I+1,by have:=HLN.out;omega,by go_num,HBZ.out,HS.out⟩
         case measure=>simp[intOf];omega
       ·obtain⟨d4,C⟩:=str_ne h4
        have HD:=hid (nd_ne (x:=x) (y:=y) (fun h=>h4 h.2.2.2.1))
        have HS:=hid (show decide (l=m)=false from decide_eq_false (at_ne f HLEN.out (by rw[←HXE.out,←HYE.out];exact of_decide_eq_false (HD.out))))
        clear h1 h2 h3 h4
        go_wp2
        go_quiet (fail)
        have HBZ:=hid (below_drewN HB.out nq)
        go_wp2
        go_ret
        exact⟨by rw[HS.out];rfl,HBZ.out⟩
      ·obtain⟨d3,B⟩:=str_ne h3
       have HD:=hid (nd_ne (x:=x) (y:=y) (fun h=>h3 h.2.2.1))
       have HS:=hid (show decide (l=m)=false from decide_eq_false (at_ne f HLEN.out (by rw[←HXE.out,←HYE.out];exact of_decide_eq_false (HD.out))))
       clear h1 h2 h3
       go_wp2
       go_quiet (fail)
       have HBZ:=hid (below_drewN HB.out nq)
       go_wp2
       go_ret
       exact⟨by rw[HS.out];rfl,HBZ.out⟩
     ·obtain⟨d2,D⟩:=ne_facts h2
      have HD:=hid (nd_ne (x:=x) (y:=y) (fun h=>h2 h.2.1))
      have HS:=hid (show decide (l=m)=false from decide_eq_false (at_ne f HLEN.out (by rw[←HXE.out,←HYE.out];exact of_decide_eq_false (HD.out))))
      clear h1 h2
      go_wp2
      go_quiet (fail)
      have HBZ:=hid (below_drewN HB.out nq)
      go_wp2
      go_ret
      exact⟨by rw[HS.out];rfl,HBZ.out⟩
    ·obtain⟨d1,A⟩:=ne_facts h1
     have HD:=hid (nd_ne (x:=x) (y:=y) (fun h=>h1 h.1))
     have HS:=hid (show decide (l=m)=false from decide_eq_false (at_ne f HLEN.out (by rw[←HXE.out,←HYE.out];exact of_decide_eq_false (HD.out))))
     clear h1
     go_wp2
     go_quiet (fail)
     have HBZ:=hid (below_drewN HB.out nq)
     go_wp2
     go_ret
     exact⟨by rw[HS.out];rfl,HBZ.out⟩
   ·have HS:=hid (show decide (l=m)=true from decide_eq_true (take_all (I:=I) (by have:=HLN.out;omega) HLEN.out HT.out))
    go_wp2
    go_ret
    exact⟨by rw[HS.out];rfl,HB.out⟩
 ·have HS:=hid (show decide (l=m)=false from decide_eq_false (fun e=>hlen (by rw[e])))
  have hd:(((l.length:Int)) !=(m.length:Int))=true:=by simp;omega
  clear hlen
  go_enter Tryz.func14,Tryz.ntmps14
  go_wp2
  go_ret
  exact⟨by rw[HS.out];rfl,Below.refl _ _⟩
end Go.Proofs.YtebjmdpkobhcbaaGreatDoor.nd
