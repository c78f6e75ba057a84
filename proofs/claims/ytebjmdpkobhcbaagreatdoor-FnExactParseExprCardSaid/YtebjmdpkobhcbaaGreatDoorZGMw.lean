/- A part of the proof; no condition of its own. -/
import Derived.Test.YtebjmdpkobhcbaaGreatDoorZGMt
namespace Go.Proofs.YtebjmdpkobhcbaaGreatDoor.mark
open Lib (hid)
open Go.ChangeShapes Go.WideShapes Go.ChangeAt Go.RowKit
open nd
set_option linter.unusedVariables false
set_option maxRecDepth 20000 in
set_option maxHeartbeats 3200000 in
theorem mark_wide{B S g cap:Nat}{r:Nat→Nat}(l:List Nd)(w:World)(htot:∀I,endM (lens (l.take I)) 1≤6000000)(hlb:l.length≤1048576)(hkb:∀t∈l,t.kids.length≤1048576)(ht:Tr B w g cap l r)(hB:B≤g)(hS:g<S)(hSr:∀i,i<l.length→r i<S):
  Calls Tryz.prog 31 #[.slice (some ⟨g,0,none⟩) l.length cap,.int .i64 1] w fun e w'=>e= .returned (.int .i64 (endM (lens l) 1:Int))∧MS B S g cap (mkL (lens l) 1) r w w':=by
 have HT:=hid (show MS B S g cap l r w w from⟨ht,Below.refl _ _,Above.refl _ _,Nat.le_refl _⟩)
 have HTOT:=hid htot
 have hcap:l.length≤cap:=by obtain⟨⟨_,_,_,h,_⟩,_⟩:=ht;exact h
 have HKB:=hid hkb
 have HSR:=hid hSr
 clear ht htot hSr hkb
 go_enter Tryz.func31,Tryz.ntmps31
 go_wp2
 go_loopw [1,5] (fun k i wr=>RelMn B S g cap w l r k i wr) (fun _ i _=>l.length-(intOf i).toNat)
 case atStart=>exact⟨0,by omega,rfl,rfl,HT.out⟩
 case round=>
  obtain⟨I,hI,rfl,rfl,hms⟩:=hrel
  have HE:=hid (HTOT.out I)
  obtain⟨P,hP⟩:∃P,P=endM (lens (l.take I)) 1:=⟨_,rfl⟩
  have HP:=hid hP
  have K:1≤P:=by rw[hP,endM_eq];omega
  rw[←hP]at HE⊢
  have hPb:=HE.out
  by_cases hlt:I<l.length
  ·obtain⟨l1,o⟩:∃l1,l1=mkL (lens (l.take I)) 1++l.drop I:=⟨_,rfl⟩
   rw[←o]at hms
   have O:=hid o
   have hmk:(mkL (lens (l.take I)) 1).length=I:=by rw[mkL_len];simp[lens];omega
   have G:l1.length=l.length:=by rw[o];simp[hmk];omega
   have A:I<l1.length:=by omega
   have hget:l1[I]=l[I]:=by
    simp only[o]
    rw[List.getElem_append_right (by omega)]
    simp[hmk]
   obtain⟨m,hm⟩:∃m,m=l[I].kids.length:=⟨_,rfl⟩
   have hmb:m≤1048576:=by
    rw[hm]
    exact HKB.out _ (List.getElem_mem hlt)
   have HM:=hid hm
   have HFIN:=hid (show l1.set I (mkN P m)=mkL (lens (l.take (I+1))) 1++l.drop (I+1) by
    rw[lens_step hlt,mkL_snoc,←hP,←hm,o,List.set_append_right _ _ (by omega),hmk,Nat.sub_self,List.drop_eq_getElem_cons hlt,List.set_cons_zero,List.append_assoc]
    rfl)
   have HEND:=hid (show endM (lens (l.take (I+1))) 1=P+4+m by rw[lens_step hlt,endM_snoc,←hP,←hm])
   have N:(I:Int)<(l.length:Int):=by omega
   have y:=hid A
   obtain⟨x,hx⟩:∃x,x=l[I]:=⟨_,rfl⟩
   have F:MS B S g cap (l1.set I x) r w wr:=by rw[hx,←hget,List.set_getElem_self];exact hms
   have hxm:x.kids.length=m:=by rw[hx,hm]
   have HXM:=hid hxm
   obtain⟨v0,e0⟩:=hms.tr.some (I*5) (by omega)
   obtain⟨v1,e1⟩:=hms.tr.some (I*5+1) (by omega)
   have f0:=hms.tr.frozen (I*5)
   have f1:=hms.tr.frozen (I*5+1)
   have M2:=hid ((F.sK hB hS A (P:Int)).sO hB hS A ((P:Int)+1))
   have HRI:=hid (HSR.out I hlt)
   clear hms F o G hget hP hm hmk hx A hxm
   go_wp2_with fail
   rw[show(P:Int)+1+1=((P+2:Nat):Int) by omega]
   refine(mark_textN (P+2) _ (by omega) (by omega)).mono ?_
   rintro e w2 ⟨rfl,b2⟩
   have m3:=M2.over b2 (Nat.le_trans hB (Nat.le_of_lt (Tr.lt M2.tr)))
   obtain⟨v2,e2⟩:=m3.tr.some (I*5+2) (by omega)
   have f2:=m3.tr.frozen (I*5+2)
   have M4:=hid (m3.sS hB hS y.out (markF (P+2)))
   clear m3 b2
   go_wp2_with fail
   rw[show(P:Int)+2+1=((P+3:Nat):Int) by omega]
   refine(mark_textN (P+3) _ (by omega) (by omega)).mono ?_
   rintro e w4 ⟨rfl,b4⟩
   have m5:=M4.over b4 (Nat.le_trans hB (Nat.le_of_lt (Tr.lt M4.tr)))
   obtain⟨v3,e3⟩:=m5.tr.some (I*5+3) (by omega)
   have f3:=m5.tr.frozen (I*5+3)
   have m6:=m5.sT hB hS y.out (markF (P+3))
   obtain⟨ar,cr,hcell,hrow⟩:=m6.row y.out
   have J:=hid hcell
   simp only[HXM.out]at hcell
   have M6:=hid m6
   have D:=Nat.le_trans hB (Nat.le_of_lt (Tr.lt m6.tr))
   have HROW:=hid hrow
   clear m5 m6 b4 hrow
   go_wp2_with fail
   rcases HROW.out with h0|⟨har,hib,hBr,hne⟩
   ·have C:m=0:=by rw[←HXM.out];show x.kids.length=0;rw[show x.kids=[]from h0];rfl
    have HFX:=hid (show MS B S g cap (l1.set I (mkN P m)) r w (w4.setCell ⟨g,I*5+3,none⟩ (.string (markF (P+3)))) by
     have:=M6.out
     have e:({k:=(P:Int),op:=(P:Int)+1,s:=markF (P+2),t:=markF (P+3),kids:=x.kids}:Nd)=mkN P m:=by
      rw[C,show x.kids=[]from h0]
      rfl
     rwa [←e])
    rw[C]
    refine(mark_ints0 _ _ _ _).mono ?_
    rintro e w6 ⟨rfl,rfl⟩
    clear e2 e3 f2 f3 hcell D
    go_wp2
    go_roundw
    case rel=>exact⟨I+1,by omega,by go_num,congrArg (Value.int .i64) (by rw[HEND.out,C];omega),by rw[←HFIN.out];exact HFX.out⟩
    case measure=>simp[intOf];omega
   ·have hmc:m≤cr:=by obtain⟨_,_,_,h,_⟩:=hib;have h2:x.kids.length≤cr:=h;have:=HXM.out;omega
    subst har
    rw[show(P:Int)+3+1=((P+4:Nat):Int) by omega]
    refine(mark_ints (r I) cr m (P+4) _ _ hib hmc hmb (by omega)).mono ?_
    rintro e w6 ⟨rfl,k6,g6⟩
    have HFX:=hid (show MS B S g cap (l1.set I (mkN P m)) r w w6 from
     M6.sKids y.out (mkI (P+4) m) (by rw[mkI_len];exact HXM.symm) J.out hne hBr HRI.out D g6 k6)
    clear e2 e3 f2 f3 hcell D hib k6 g6
    go_wp2
    go_roundw
    case rel=>exact⟨I+1,by omega,by go_num,congrArg (Value.int .i64) (by rw[HEND.out];omega),by rw[←HFIN.out];exact HFX.out⟩
    case measure=>simp[intOf];omega
  ·obtain rfl:I=l.length:=by omega
   have HFX:=hid (show MS B S g cap (mkL (lens l) 1) r w wr by have:=hms;rwa [List.take_length,List.drop_length,List.append_nil]at this)
   have HPE:=hid (show(P:Int)=(endM (lens l) 1:Int) by rw[hP,List.take_length])
   clear hms hP
   go_wp2
   go_ret
   exact⟨by rw[←HPE.out];rfl,HFX.out⟩
theorem end_few(l:List Nd)(I:Nat)(hl:l.length≤400)(hk:∀t∈l,t.kids.length≤6):endM (lens (l.take I)) 1≤6000000:=by
 rw[endM_eq]
 have h1:(lens (l.take I)).sum≤6*(l.take I).length:=by
  have:∀q:List Nd,(∀t∈q,t.kids.length≤6)→(lens q).sum≤6*q.length:=by
   intro q
   induction q with
   |nil=>intro _;simp[lens]
   |cons n q ih=>
    intro h
    have h1:=ih (fun t ht=>h t (List.mem_cons_of_mem _ ht))
    have h2:=h n (List.mem_cons_self ..)
    simp only[lens,List.map_cons,List.sum_cons,List.length_cons]at h1⊢
    omega
  exact this _ (fun t ht=>hk t (List.mem_of_mem_take ht))
 have h2:(l.take I).length≤l.length:=by simp;omega
 have h3:(lens (l.take I)).length=(l.take I).length:=by simp[lens]
 omega
structure GO(S:Nat)(a:Option Addr)(cap:Nat)(q:List Nd)(w:World):Prop where
 own:q=[]∨∃g r,a=some ⟨g,0,none⟩∧S≤g∧Tr S w g cap q r
theorem GO.of{S:Nat}{v:Value}{z:List (Nd×Value)}{r:Nat→Nat}{w:World}{q:List Nd}(h:PT S v z r w)(hz:z.map (·.1)=q):∃a cap,v= .slice a q.length cap∧GO S a cap q w:=by
 have hl:z.length=q.length:=by rw[←hz];simp
 rcases h.tr with ⟨hv,h0⟩|⟨g,cap,hv,hS,ht⟩
 ·exact⟨none,0,by rw[hv,←hl,h0];rfl,⟨.inl (by rw[←hz,h0];rfl)⟩⟩
 ·exact⟨_,cap,by rw[hv,hl],⟨.inr ⟨g,r,rfl,hS,by rw[←hz];exact ht⟩⟩⟩
theorem GO.keep{S:Nat}{a:Option Addr}{cap:Nat}{q:List Nd}{w w':World}(h:GO S a cap q w)(hb:Below w.heap.size w w'):GO S a cap q w':=by
 refine⟨h.own.imp id ?_⟩
 rintro⟨g,r,e,hS,ht⟩
 exact⟨g,r,e,hS,ht.keep hb (Nat.le_refl _)⟩
theorem GO.lies{S:Nat}{a:Option Addr}{cap:Nat}{q:List Nd}{w:World}(h:GO S a cap q w):Lies w.heap.size w a q:=by
 rcases h.own with h|⟨g,r,e,hS,ht⟩
 ·exact .inl h
 ·rw[e];exact ht.lies
theorem mark_none(a:Option Addr)(cap:Nat)(k:Int)(w:World):
  Calls Tryz.prog 31 #[.slice a 0 cap,.int .i64 k] w fun e w'=>e= .returned (.int .i64 k)∧w=w':=by
 go_enter Tryz.func31,Tryz.ntmps31
 go_wp2
 go_loop [1,5] (fun k' i=>k'= .int .i64 k∧i= .int .i64 0) (fun _ _=>0)
 case atStart=>exact⟨rfl,rfl⟩
 case round=>
  obtain⟨rfl,rfl⟩:=hrel
  go_wp2
  go_ret
  exact⟨rfl,rfl⟩
theorem mark_go{S:Nat}{a:Option Addr}{cap:Nat}{q:List Nd}{w:World}(h:GO S a cap q w)(hl:q.length≤400)(hk:∀t∈q,t.kids.length≤6):
  Calls Tryz.prog 31 #[.slice a q.length cap,.int .i64 1] w fun e w'=>e= .returned (.int .i64 (endM (lens q) 1:Int))∧Below S w w'∧Lies w'.heap.size w' a (mkL (lens q) 1)∧w.heap.size≤w'.heap.size:=by
 rcases h.own with h0|⟨g,r,rfl,hS,ht⟩
 ·subst h0
  exact(mark_none a cap 1 w).mono fun e w' ⟨he,hw⟩=>⟨he,by rw[←hw];exact Below.refl _ _,.inl rfl,by rw[←hw];exact Nat.le_refl _⟩
 ·exact(mark_wide (S:=w.heap.size) q w (fun I=>end_few q I hl hk) (by omega) (fun t ht=>by have:=hk t ht;omega) ht hS ht.lt ht.2.2).mono fun e w' ⟨he,hm⟩=>⟨he,hm.bel,hm.tr.lies,hm.siz⟩
end Go.Proofs.YtebjmdpkobhcbaaGreatDoor.mark

namespace Go.Proofs.YtebjmdpkobhcbaaGreatDoor.mark
open Lib (hid)
open Go.ChangeShapes Go.WideShapes Go.ChangeAt Go.RowKit
open nd
set_option linter.unusedVariables false
def RelHi(P n:Nat)(k i:Value):Prop:=∃I:Nat,I≤n∧i= .int .i64 (I:Int)∧k= .int .i64 ((P+I:Nat):Int)
theorem held_ints(a:Option Addr)(cap n P:Nat)(w:World)(hn:n≤1048576)(hP:P≤6000010)(hc:Ints w.heap.size w a (mkI P n)):
  Calls Tryz.prog 70 #[.slice a n cap,.int .i64 (P:Int)] w fun e w'=>e= .returned (.int .i64 ((P+n:Nat):Int))∧w=w':=by
 have HC:=hid hc
 clear hc
 go_enter Tryz.func70,Tryz.ntmps70
 go_wp2
 go_loop [1,5] (fun k i=>RelHi P n k i) (fun _ i=>n-(intOf i).toNat)
 case atStart=>exact⟨0,by omega,rfl,by simp⟩
 case round=>
  obtain⟨I,hI,rfl,rfl⟩:=hrel
  obtain⟨Q,hQ⟩:∃Q,Q=P+I:=⟨_,rfl⟩
  rw[←hQ]
  have HQ:=hid hQ
  have hQb:Q≤8000000:=by omega
  by_cases hlt:I<n
  ·have h:(I:Int)<(n:Int):=by omega
   have y:(0:Int)≤(I:Int):=by omega
   obtain⟨b,o,rfl,_,hcell⟩:=nd.ints_at HC.out (I:=I) (by rw[mkI_len];exact hlt)
   have c0:=hcell I (by rw[mkI_len];exact hlt)
   rw[mkI_get hlt,←hQ]at c0
   clear hcell hQ
   go_wp2
   go_round
   case rel=>exact⟨I+1,by omega,by go_num,congrArg (Value.int .i64) (by have:=HQ.out;omega)⟩
   case measure=>simp[intOf];omega
  ·obtain rfl:I=n:=by omega
   have HQZ:=hid (show(Q:Int)=(P:Int)+(I:Int) by omega)
   clear hQ
   go_wp2
   go_ret
   exact⟨by rw[←HQZ.out];rfl,rfl⟩
theorem mkL_get:∀(ms:List Nat) (P I:Nat) (h:I<ms.length),(mkL ms P)[I]'(by rw[mkL_len];exact h)=mkN (endM (ms.take I) P) ms[I]:=by
 intro ms
 induction ms with
 |nil=>intro P I h;simp at h
 |cons m ms ih=>
  intro P I h
  cases I with
  |zero=>simp[mkL,endM]
  |succ I=>simp only[mkL,List.getElem_cons_succ,List.take_succ_cons,endM];exact ih _ _ (by simpa using h)
theorem one_start{w W:World}{B b o:Nat}{x:ByteArray}(h:W.cell? ⟨b,o,none⟩=some (.string x))(hB:Below B w W)(hs:B≤W.heap.size):W.cell? ⟨b,o,none⟩=some (.string x)∧Below B w W∧B≤W.heap.size:=⟨h,hB,hs⟩
theorem one_drew{w W:World}{B b o:Nat}{x:ByteArray}(h:W.cell? ⟨b,o,none⟩=some (.string x)∧Below B w W∧B≤W.heap.size):W.drew.cell? ⟨b,o,none⟩=some (.string x)∧Below B w W.drew∧B≤W.drew.heap.size:=⟨h.1,h.2.1.drew,h.2.2⟩
theorem one_keep{w W w1:World}{B b o:Nat}{x:ByteArray}(hb:b<B)(h:W.cell? ⟨b,o,none⟩=some (.string x)∧Below B w W∧B≤W.heap.size)(hk:Below W.heap.size W w1):w1.cell? ⟨b,o,none⟩=some (.string x)∧Below B w w1∧B≤w1.heap.size:=
 ⟨(hk.cell (p:=⟨b,o,none⟩) (Nat.lt_of_lt_of_le hb h.2.2)).trans h.1,h.2.1.trans (hk.mono h.2.2),Nat.le_trans h.2.2 hk.size⟩
def RelHn(B:Nat)(W:World)(ms:List Nat)(k i:Value)(wr:World):Prop:=
 ∃I:Nat,I≤ms.length∧i= .int .i64 (I:Int)∧k= .int .i64 (endM (ms.take I) 1:Int)∧Below B W wr
set_option maxHeartbeats 3200000 in
theorem held_nodes(a:Option Addr)(cap:Nat)(ms:List Nat)(w:World)(hb:∀I,endM (ms.take I) 1≤6000000)(hm:∀m∈ms,m≤1048576)(hn:ms.length≤1048576)(hc:Lies w.heap.size w a (mkL ms 1)):
  Calls Tryz.prog 32 #[.slice a ms.length cap,.int .i64 1] w fun e w'=>e= .returned (.int .i64 (endM ms 1:Int))∧Below w.heap.size w w':=by
 have HC:=hid hc
 have HBD:=hid hb
 have HMM:=hid hm
 clear hc hb hm
 go_enter Tryz.func32,Tryz.ntmps32
 go_wp2
 go_loopw [1,5] (fun k i wr=>RelHn w.heap.size w ms k i wr) (fun _ i _=>ms.length-(intOf i).toNat)
 case atStart=>exact⟨0,by omega,rfl,rfl,Below.refl _ _⟩
 case round=>
  obtain⟨I,hI,rfl,rfl,hbel⟩:=hrel
  have HB:=hid hbel
  clear hbel
  obtain⟨P,hP⟩:∃P,P=endM (ms.take I) 1:=⟨_,rfl⟩
  have hPb:P≤6000000:=by rw[hP];exact HBD.out I
  have U:1≤P:=by rw[hP,endM_eq];omega
  have HP:=hid hP
  rw[←hP]
  by_cases hlt:I<ms.length
  ·obtain⟨b,o,rfl,hb,hcell⟩:=lies_at HC.out (I:=I) (by rw[mkL_len];exact hlt)
   have hat:=hcell I (by rw[mkL_len];exact hlt)
   rw[mkL_get ms 1 I hlt,←hP]at hat
   obtain⟨m,hm⟩:∃m,m=ms[I]:=⟨_,rfl⟩
   rw[←hm]at hat
   have hmb:m≤1048576:=by rw[hm];exact HMM.out _ (List.getElem_mem hlt)
   have HEND:=hid (show endM (ms.take (I+1)) 1=P+4+m by rw[List.take_succ_eq_append_getElem hlt,endM_snoc,←hP,←hm])
   obtain⟨ak,ck,h5,hik⟩:=hat
   obtain⟨c0,c1,c2,c3,c4⟩:=h5.keep HB.out hb
   obtain⟨_,_,_,w3,w4⟩:=h5
   have e4:(mkN P m).kids.length=m:=mkI_len _ _
   rw[e4]at c4 w4
   obtain⟨s2,y⟩:∃s,s=markF (P+2):=⟨_,rfl⟩
   obtain⟨s3,h⟩:∃s,s=markF (P+3):=⟨_,rfl⟩
   have F:wr.cell? ⟨b,o+I*5+2,none⟩=some (.string s2):=by rw[y];exact c2
   have J:wr.cell? ⟨b,o+I*5+3,none⟩=some (.string s3):=by rw[h];exact c3
   have V:wr.cell? ⟨b,o+I*5,none⟩=some (.int .i64 (P:Int)):=c0
   have O:wr.cell? ⟨b,o+I*5+1,none⟩=some (.int .i64 ((P:Int)+1)):=c1
   have HIK:=hid (show Ints w.heap.size w ak (mkI (P+4) m)from hik)
   have A:=hid (one_start F HB.out HB.size)
   have K:=hid y
   have N:=hid h
   have q2:=(str_eq (rfl:s2=s2)).2
   have q3:=(str_eq (rfl:s3=s3)).2
   have Z:(I:Int)<(ms.length:Int):=by omega
   have Q:(0:Int)≤(I:Int):=by omega
   have C3:=hid (show w.cell? ⟨b,o+I*5+3,none⟩=some (.string s3) by rw[h];exact w3)
   have C4:=hid w4
   clear w3 w4 c0 c1 c2 c3 c4 hik hcell hm hP y h e4 J F
   go_wp2
   rw[show(P:Int)+1+1=((P+2:Nat):Int) by omega]
   go_region_held3 (fun w'=>w'.cell? ⟨b,o+I*5+2,none⟩=some (.string s2)∧Below w.heap.size w w'∧w.heap.size≤w'.heap.size)
    (first|exact one_drew A.out|exact A.out|exact one_keep hb (by assumption) (by assumption)|exact one_drew (by assumption))
    (first|(go_at_call 68;refine(mark_textN (P+2) _ (by omega) (by omega)).mono ?_;rintro e w1 ⟨he,b1⟩;rw[←K.out]at he;subst he))
   have HSX:=hid (by assumption:_∧Below w.heap.size w _∧w.heap.size≤_)
   have D:=(HSX.out.2.1.cell (p:=⟨b,o+I*5+3,none⟩) hb).trans C3.out
   have C:=hid (one_start D HSX.out.2.1 HSX.out.2.2)
   clear D
   go_wp2
   rw[show(P:Int)+2+1=((P+3:Nat):Int) by omega]
   go_region_held3 (fun w'=>w'.cell? ⟨b,o+I*5+3,none⟩=some (.string s3)∧Below w.heap.size w w'∧w.heap.size≤w'.heap.size)
    (first|exact one_drew C.out|exact C.out|exact one_keep hb (by assumption) (by assumption)|exact one_drew (by assumption))
    (first|(go_at_call 68;refine(mark_textN (P+3) _ (by omega) (by omega)).mono ?_;rintro e w5 ⟨he,b5⟩;rw[←N.out]at he;subst he))
   have HSY:=hid (by assumption:_∧Below w.heap.size w _∧w.heap.size≤_)
   have G:=(HSY.out.2.1.cell (p:=⟨b,o+I*5+4,none⟩) hb).trans C4.out
   go_wp2_with fail
   rw[show(P:Int)+3+1=((P+4:Nat):Int) by omega]
   refine(held_ints ak ck m (P+4) _ hmb (by omega) ((HIK.keep HSY.out.2.1 (Nat.le_refl _)).up HSY.out.2.2)).mono ?_
   rintro e w6 ⟨rfl,rfl⟩
   have hz:¬((P+4+m:Nat):Int)<0:=by omega
   have HBF:=hid HSY.out.2.1
   clear G
   go_wp2
   go_roundw
   case rel=>exact⟨I+1,by omega,by go_num,congrArg (Value.int .i64) (by rw[HEND.out];omega),HBF.out⟩
   case measure=>simp[intOf];omega
  ·obtain rfl:I=ms.length:=by omega
   have HPE:=hid (show(P:Int)=(endM ms 1:Int) by rw[hP,List.take_length])
   clear hP
   go_wp2
   go_ret
   exact⟨by rw[←HPE.out];rfl,HB.out⟩
end Go.Proofs.YtebjmdpkobhcbaaGreatDoor.mark
