/-

-/
import Derived.Test.YtnoagleifffkcaaGreatDoorZoNdEq
import Derived.Test.YtnoagleifffkcaaGreatDoorZoGSt
import Derived.Test.YtnoagleifffkcaaGreatDoorZoGMk
import Derived.Test.YtnoagleifffkcaaGreatDoorZoGDp
namespace Go.Proofs.YtnoagleifffkcaaGreatDoor.nd
open Lib (hid)
open Go.ChangeShapes Go.WideShapes Go.ChangeAt Go.RowKit
set_option linter.unusedVariables false
def RelEF(B:Nat)(W:World)(l m:List Nd)(i:Value)(wr:World):Prop:=
 ∃I:Nat,I≤l.length∧i= .int .i64 (I:Int)∧Below B W wr∧l.take I=m.take I
set_option maxHeartbeats 3200000 in
theorem spec_same(l m:List Nd)(a a':Option Addr)(cap cap':Nat)(w:World)(hn:l.length≤1048576)(hn':m.length≤1048576)(hk:∀t∈l,t.kids.length≤1048576)(hk':∀t∈m,t.kids.length≤1048576)(hc:Lies w.heap.size w a l)(hc':Lies w.heap.size w a' m):
  Calls Tryz.prog 12 #[.slice a l.length cap,.slice a' m.length cap'] w fun e w'=>e= .returned (.bool (decide (l=m)))∧Below w.heap.size w w':=by
 have HC:=hid hc
 have HC':=hid hc'
 have HK:=hid hk
 have HK':=hid hk'
 clear hc hc' hk hk'
 by_cases hlen:l.length=m.length
 ·have HLEN:=hid hlen
  obtain⟨n,hln⟩:∃n,n=l.length:=⟨_,rfl⟩
  have HLN:=hid hln
  rw[←hlen,←hln]
  rw[←hln]at hn
  have hd:(((n:Int)) !=(n:Int))=false:=by simp
  clear hlen hn' hln
  go_enter Tryz.func12,Tryz.ntmps12
  go_wp2
  go_loopw [5] (fun i wr=>RelEF w.heap.size w l m i wr) (fun i _=>n-(intOf i).toNat)
  case atStart=>exact⟨0,by omega,rfl,Below.refl _ _,by simp⟩
  case round=>
   obtain⟨I,hI,rfl,hbel,htk⟩:=hrel
   have HB:=hid hbel
   have HT:=hid htk
   rw[←HLN.out]at hI
   clear hbel htk
   by_cases hlt:I<n
   ·have j:I<l.length:=by have:=HLN.out;omega
    have G:I<m.length:=by have:=HLEN.out;omega
    obtain⟨b,o,rfl,hb,hcell⟩:=lies_at HC.out j
    obtain⟨b',o',rfl,hb',hcell'⟩:=lies_at HC'.out G
    obtain⟨ax,cx,x5,xi⟩:=(hcell I j).keep HB.out (Nat.le_refl _) hb
    obtain⟨ay,cy,y5,yi⟩:=(hcell' I G).keep HB.out (Nat.le_refl _) hb'
    have HKX:=hid (HK.out l[I] (List.getElem_mem j))
    have HKY:=hid (HK'.out m[I] (List.getElem_mem G))
    obtain⟨x,hx⟩:∃x,x=l[I]:=⟨_,rfl⟩
    obtain⟨y,hy⟩:∃y,y=m[I]:=⟨_,rfl⟩
    rw[←hx]at x5 xi HKX
    rw[←hy]at y5 yi HKY
    have HXE:=hid hx
    have HYE:=hid hy
    have S:(I:Int)<(n:Int):=by omega
    have V:(0:Int)≤(I:Int):=by omega
    clear hx hy hcell hcell'
    have HXI:=hid (show∀q,Ints (wr.drewN q).heap.size (wr.drewN q) ax x.kids from fun q=>(xi.keep (below_drewN (Below.refl _ wr) q) HB.size).up HB.size)
    have HYI:=hid (show∀q,Ints (wr.drewN q).heap.size (wr.drewN q) ay y.kids from fun q=>(yi.keep (below_drewN (Below.refl _ wr) q) HB.size).up HB.size)
    obtain⟨c0,c1,c2,c3,c4⟩:=x5
    obtain⟨e0,e1,e2,e3,e4⟩:=y5
    clear xi yi
    by_cases h1:x.k=y.k
    ·obtain⟨d1,J⟩:=eq_facts h1
     by_cases h2:x.op=y.op
     ·obtain⟨d2,P⟩:=eq_facts h2
      by_cases h3:x.s=y.s
      ·obtain⟨d3,K⟩:=str_eq h3
       by_cases h4:x.t=y.t
       ·obtain⟨d4,O⟩:=str_eq h4
        have HQ:=nd_eq ⟨h1,h2,h3,h4⟩
        obtain⟨d,F⟩:∃d,decide (x.kids=y.kids)=d:=⟨_,rfl⟩
        rw[F]at HQ
        have HD:=hid F
        have HQ:=hid HQ
        have HCC:=hid (show∀q,Calls Tryz.prog 34 #[.slice ax x.kids.length cx,.slice ay y.kids.length cy] (wr.drewN q) (fun e w'=>e= .returned (.bool d)∧∃m,w'=(wr.drewN q).drewN m)from fun q=>by rw[←HD.out];exact spec_ints_q x.kids y.kids ax ay cx cy _ HKX.out HKY.out (HXI.out q) (HYI.out q))
        clear F
        cases d
        ·have HS:=hid (show decide (l=m)=false from decide_eq_false (at_ne j HLEN.out (by rw[←HXE.out,←HYE.out];exact of_decide_eq_false (HQ.out))))
         clear h1 h2 h3 h4
         go_wp2
         go_quiet (first|(go_at_call 34;exact Calls.quiet_of (HCC.out _)))
         have HBZ:=hid (below_drewN HB.out nq)
         go_wp2
         go_ret
         exact⟨by rw[HS.out];rfl,HBZ.out⟩
        ·have HS:=hid (take_step j HLEN.out HT.out (by rw[←HXE.out,←HYE.out];exact of_decide_eq_true (HQ.out)))
         clear h1 h2 h3 h4
         go_wp2
         go_quiet (first|(go_at_call 34;exact Calls.quiet_of (HCC.out _)))
         have HBZ:=hid (below_drewN HB.out nq)
         go_wp2
         go_roundw
         case rel=>exact⟨I+1,by have:=HLN.out;omega,by go_num,HBZ.out,HS.out⟩
         case measure=>simp[intOf];omega
       ·obtain⟨d4,O⟩:=str_ne h4
        have HD:=hid (nd_ne (x:=x) (y:=y) (fun h=>h4 h.2.2.2.1))
        have HS:=hid (show decide (l=m)=false from decide_eq_false (at_ne j HLEN.out (by rw[←HXE.out,←HYE.out];exact of_decide_eq_false (HD.out))))
        clear h1 h2 h3 h4
        go_wp2
        go_quiet (fail)
        have HBZ:=hid (below_drewN HB.out nq)
        go_wp2
        go_ret
        exact⟨by rw[HS.out];rfl,HBZ.out⟩
      ·obtain⟨d3,K⟩:=str_ne h3
       have HD:=hid (nd_ne (x:=x) (y:=y) (fun h=>h3 h.2.2.1))
       have HS:=hid (show decide (l=m)=false from decide_eq_false (at_ne j HLEN.out (by rw[←HXE.out,←HYE.out];exact of_decide_eq_false (HD.out))))
       clear h1 h2 h3
       go_wp2
       go_quiet (fail)
       have HBZ:=hid (below_drewN HB.out nq)
       go_wp2
       go_ret
       exact⟨by rw[HS.out];rfl,HBZ.out⟩
     ·obtain⟨d2,P⟩:=ne_facts h2
      have HD:=hid (nd_ne (x:=x) (y:=y) (fun h=>h2 h.2.1))
      have HS:=hid (show decide (l=m)=false from decide_eq_false (at_ne j HLEN.out (by rw[←HXE.out,←HYE.out];exact of_decide_eq_false (HD.out))))
      clear h1 h2
      go_wp2
      go_quiet (fail)
      have HBZ:=hid (below_drewN HB.out nq)
      go_wp2
      go_ret
      exact⟨by rw[HS.out];rfl,HBZ.out⟩
    ·obtain⟨d1,J⟩:=ne_facts h1
     have HD:=hid (nd_ne (x:=x) (y:=y) (fun h=>h1 h.1))
     have HS:=hid (show decide (l=m)=false from decide_eq_false (at_ne j HLEN.out (by rw[←HXE.out,←HYE.out];exact of_decide_eq_false (HD.out))))
     clear h1
     go_wp2
     go_quiet (fail)
     have HBZ:=hid (below_drewN HB.out nq)
     go_wp2
     go_ret
     exact⟨by rw[HS.out];rfl,HBZ.out⟩
   ·have HS:=hid (show decide (l=m)=true from decide_eq_true (take_all (I:=I) (by have:=HLN.out;omega) HLEN.out HT.out))
    go_wp2
    go_ret
    exact⟨by rw[HS.out];rfl,HB.out⟩
 ·have HS:=hid (show decide (l=m)=false from decide_eq_false (fun e=>hlen (by rw[e])))
  have hd:(((l.length:Int)) !=(m.length:Int))=true:=by simp;omega
  clear hlen
  go_enter Tryz.func12,Tryz.ntmps12
  go_wp2
  go_ret
  exact⟨by rw[HS.out];rfl,Below.refl _ _⟩
end Go.Proofs.YtnoagleifffkcaaGreatDoor.nd

namespace Go.Proofs.YtnoagleifffkcaaGreatDoor.nd
open Go.ChangeShapes Go.WideShapes Go.ChangeAt Go.RowKit
set_option linter.unusedVariables false
end Go.Proofs.YtnoagleifffkcaaGreatDoor.nd

namespace Go.Proofs.YtnoagleifffkcaaGreatDoor.nd
open Go.ChangeShapes Go.WideShapes Go.ChangeAt Go.RowKit
set_option linter.unusedVariables false
def findZ(x:Int):List Int→Nat→Int
 |[],_=> -1
 |y::l,k=>if y=x then(k:Int)else findZ x l (k+1)
def RelIx(x:Int)(l:List Int)(i:Value):Prop:=
 ∃K:Nat,K≤l.length∧i= .int .i64 (K:Int)∧findZ x (l.drop K) K=findZ x l 0
def findN(x:Int):List Nd→Nat→Int
 |[],_=> -1
 |n::l,k=>if x∈n.kids then(k:Int)else findN x l (k+1)
def parentF(x:Int)(l:List Nd):Int:=if shape l=true then findN x l 0 else-1
def RelFN(B g:Nat)(W:World)(x:Int)(l:List Nd)(i:Value)(wr:World):Prop:=
 ∃K:Nat,K≤l.length∧i= .int .i64 (K:Int)∧findN x (l.drop K) K=findN x l 0∧Below B W wr
def RelPs(B:Nat)(W:World)(x:Int)(l:List Nd)(i:Value)(wr:World):Prop:=
 ∃K:Nat,K≤l.length∧i= .int .i64 (K:Int)∧findN x (l.drop K) K=findN x l 0∧Below B W wr
def RelPj(x:Int)(l:List Int)(j:Value):Prop:=
 ∃J:Nat,J≤l.length∧j= .int .i64 (J:Int)∧¬x∈l.take J
end Go.Proofs.YtnoagleifffkcaaGreatDoor.nd

namespace Go.Proofs.YtnoagleifffkcaaGreatDoor.nd
open Go.RowKit
set_option linter.unusedVariables false
theorem back_cons{ss:List Nat}{k:Int}{ks:List Int}{p s:Nat}(h:back ss (k::ks) p=some s):∃q:Nat,k=(q:Int)∧p=q+1∧back ss ks (ss.getD q 0)=some s:=by
 unfold back at h
 split at h
 ·next hc=>
  refine⟨p-1,by omega,by omega,h⟩
 ·cases h
theorem back_tile{ss:List Nat}(hl:Low ss):∀(ks:List Int) (p s I:Nat),p≤ss.length→back ss ks p=some s→s≤I→I<p→∃k:Nat,(k:Int)∈ks∧k<p∧ss.getD k 0≤I∧I≤k∧s≤ss.getD k 0:=by
 intro ks
 induction ks with
 |nil=>intro p s I _ h h1 h2;simp[back]at h;omega
 |cons k ks ih=>
  intro p s I hp h h1 h2
  obtain⟨q,rfl,rfl,hh⟩:=back_cons h
  have hq:=hl.get (i:=q) (by omega)
  by_cases hI:ss.getD q 0≤I
  ·exact⟨q,List.mem_cons_self ..,by omega,hI,by omega,back_le hl _ _ _ (by omega) hh⟩
  ·obtain⟨k,hk,h3,h4⟩:=ih _ _ _ (by omega) hh h1 (by omega)
   exact⟨k,List.mem_cons_of_mem _ hk,by omega,h4⟩
theorem back_kid{ss:List Nat}(hl:Low ss):∀(ks:List Int) (p s:Nat),p≤ss.length→back ss ks p=some s→∀k∈ks,(s:Int)≤k:=by
 intro ks
 induction ks with
 |nil=>intro p s _ _ k hk;cases hk
 |cons k ks ih=>
  intro p s hp h j hj
  obtain⟨q,rfl,rfl,hh⟩:=back_cons h
  have hq:=hl.get (i:=q) (by omega)
  have:=back_le hl _ _ _ (by omega) hh
  rcases List.mem_cons.1 hj with rfl|hj
  ·omega
  ·exact ih _ _ (by omega) hh j hj
theorem dF_pre:∀(l:List Nd) (d:List Nat),∃q,dF l d=d++q:=by
 intro l
 induction l with
 |nil=>intro d;exact⟨[],by simp[dF]⟩
 |cons n l ih=>
  intro d
  obtain⟨q,e⟩:=ih (d++[mx d n.kids+1])
  exact⟨[mx d n.kids+1]++q,by simp only[dF];rw[e,List.append_assoc]⟩
theorem dF_at:∀(l:List Nd) (d:List Nat) i (h:i<l.length),(dF l d).getD (d.length+i) 0=mx ((dF l d).take (d.length+i)) l[i].kids+1:=by
 intro l
 induction l with
 |nil=>intro d i h;simp at h
 |cons n l ih=>
  intro d i h
  simp only[dF]
  cases i with
  |zero=>
   obtain⟨q,e⟩:=dF_pre l (d++[mx d n.kids+1])
   rw[e]
   simp
  |succ i=>
   have:=ih (d++[mx d n.kids+1]) i (by simpa using h)
   simp only[List.length_append,List.length_singleton]at this
   rw[show d.length+(i+1)=d.length+1+i by omega,this]
   rfl
theorem mx_ge(d:List Nat):∀(ks:List Int) (k:Int),k∈ks→d.getD k.toNat 0≤mx d ks:=by
 intro ks
 have main:∀(ks:List Int) (m:Nat),m≤ks.foldl (fun m k=>max m (d.getD k.toNat 0)) m∧∀k∈ks,d.getD k.toNat 0≤ks.foldl (fun m k=>max m (d.getD k.toNat 0)) m:=by
  intro ks
  induction ks with
  |nil=>intro m;exact⟨Nat.le_refl _,fun k hk=>by cases hk⟩
  |cons x ks ih=>
   intro m
   obtain⟨h1,h2⟩:=ih (max m (d.getD x.toNat 0))
   refine⟨Nat.le_trans (Nat.le_max_left _ _) h1,fun k hk=> ?_⟩
   rcases List.mem_cons.1 hk with rfl|hk
   ·exact Nat.le_trans (Nat.le_max_right _ _) h1
   ·exact h2 k hk
 exact(main ks 0).2
theorem getD_take{ss:List Nat}{i q:Nat}(h:q<i):(ss.take i).getD q 0=ss.getD q 0:=by
 rw[List.getD_eq_getElem?_getD,List.getD_eq_getElem?_getD,List.getElem?_take,if_pos h]
theorem Low.take{ss:List Nat}(h:Low ss)(i:Nat):Low (ss.take i):=fun j hj=>by
 rw[List.getElem_take]
 exact h j _
theorem back_full{ss:List Nat}{i:Nat}:∀(ks:List Int) (p:Nat),p≤i→Low ss→i≤ss.length→back (ss.take i) ks p=back ss ks p:=by
 intro ks
 induction ks with
 |nil=>intro p _ _ _;rfl
 |cons k ks ih=>
  intro p hp hl hi
  by_cases hc:k=(p:Int)-1∧p≠0
  ·rw[back_yes hc.1 hc.2,back_yes hc.1 hc.2,getD_take (by omega)]
   have:=hl.get (i:=p-1) (by omega)
   exact ih _ (by omega) hl hi
  ·rw[back_no hc,back_no hc]
section
variable {l:List Nd}
theorem sh_back(h:shape l=true){i:Nat}(hi:i<l.length):back (stO l) l[i].kids.reverse i=some ((stO l).getD i 0):=by
 obtain⟨h1,h2,h3,h4,h5,h6⟩:=shape_yes h
 rw[←(shape_at h hi).1]
 exact(back_full _ _ (Nat.le_refl _) h5 (by omega)).symm
theorem sh_nest(h:shape l=true):∀K,K<l.length→∀i,(stO l).getD K 0≤i→i≤K→(stO l).getD K 0≤(stO l).getD i 0:=by
 obtain⟨h1,h2,h3,h4,h5,h6⟩:=shape_yes h
 intro K
 induction K using Nat.strongRecOn with
 |ind K ih=>
  intro hK i e y
  by_cases he:i=K
  ·rw[he];exact Nat.le_refl _
  ·obtain⟨k,hk,h7,h8,h9,j⟩:=back_tile h5 _ _ _ i (by omega) (sh_back h hK) e (by omega)
   have:=ih k h7 (by omega) i h8 h9
   omega
theorem sh_kid(h:shape l=true){P:Nat}(hP:P<l.length){k:Int}(hk:k∈l[P].kids):0≤k∧k<(P:Int)∧((stO l).getD P 0:Int)≤k:=by
 obtain⟨h1,h2,h3,h4,h5,h6⟩:=shape_yes h
 obtain⟨h7,h8⟩:=(shape_at h hP).2 k hk
 exact⟨h7,h8,back_kid h5 _ _ _ (by omega) (sh_back h hP) k (List.mem_reverse.2 hk)⟩
def dep(l:List Nd)(i:Nat):Nat:=(dF l []).getD i 0
theorem dep_at{i:Nat}(hi:i<l.length):dep l i=mx ((dF l []).take i) l[i].kids+1:=by
 have:=dF_at l [] i hi
 simpa [dep]using this
theorem all_depth(h:shape l=true):depthF l=dep l (l.length-1):=by
 unfold depthF
 rw[if_pos h]
 rfl
theorem dep_kid(h:shape l=true){P i:Nat}(hP:P<l.length)(hk:(i:Int)∈l[P].kids):dep l i<dep l P:=by
 obtain⟨k1,k2,k3⟩:=sh_kid h hP hk
 rw[dep_at hP]
 have:=mx_ge ((dF l []).take P) l[P].kids i hk
 rw[getD_take (by omega)]at this
 exact Nat.lt_succ_of_le this
theorem part_all(h:shape l=true):partS l ((stO l).getD (l.length-1) 0) (l.length-1)=l:=by
 obtain⟨h1,h2,h3,h4,h5,h6⟩:=shape_yes h
 unfold partS
 rw[h6,List.drop_zero,List.take_of_length_le (by omega)]
 refine(List.map_congr_left (g:=id) (fun t ht=> ?_)).trans (List.map_id l)
 obtain⟨i,hi,rfl⟩:=List.mem_iff_getElem.1 ht
 show shN _ l[i]=l[i]
 unfold shN
 have e:shK (-((0:Nat):Int)) l[i].kids=l[i].kids:=by
  unfold shK
  refine(List.map_congr_left (g:=id) (fun k hk=> ?_)).trans (List.map_id _)
  have:=sh_kid h hi hk
  show wrap64 (k+ -((0:Nat):Int))=k
  rw[wrap_w _ (by omega) (by omega)]
  omega
 rw[e]
end
end Go.Proofs.YtnoagleifffkcaaGreatDoor.nd
