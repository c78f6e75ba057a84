/-

-/
import Derived.Test.YtnoagleifffkcaaGreatDoorZoGDe
import Derived.Test.YtnoagleifffkcaaGreatDoorZoGDp
import Derived.Deep.RegionLaw
import Derived.Test.YtnoagleifffkcaaGreatDoorZoGKd
import Derived.Test.YtnoagleifffkcaaGreatDoorZoGDa
import Derived.Deep.RegionHeld3
namespace Go.Proofs.YtnoagleifffkcaaGreatDoor.draw
open Lib (hid)
open Go.ChangeShapes Go.WideShapes Go.ChangeAt Go.RowKit
open nd lcg
open sz (Sh expr_str stmt_str prog_str)
set_option linter.unusedVariables false
set_option maxRecDepth 20000
theorem neF{x c:Int}(h:¬x=c):(x==c)=false∧(x !=c)=true:=by simp[h]
theorem In.drew1{B p len cap:Nat}{w:World}{a:Option Addr}{zs:List Int}{s:Nat×Int}(H:In B w p a len cap zs s):In B w.drew p a len cap zs s:=
 ⟨H.code.keep ⟨rfl,rfl,rfl,Nat.le_refl _,fun _ _=>rfl⟩,H.cur,H.le,H.used,H.small⟩
def IntsX(p B:Nat)(w:World)(a:Option Addr)(l:List Int):Prop:=
 l=[]∨∃b o,a=some ⟨b,o,none⟩∧b<B∧b≠p∧∀i (h:i<l.length),w.cell? ⟨b,o+i,none⟩=some (.int .i64 l[i])
def LiesX(p B:Nat)(w:World)(a:Option Addr)(l:List Nd):Prop:=
 l=[]∨∃b o,a=some ⟨b,o,none⟩∧b<B∧b≠p∧∀i (h:i<l.length),∃ak ck,Five w b (o+i*5) l[i] ak ck∧IntsX p B w ak l[i].kids
theorem IBlk.intsX{p:Nat}{w:World}{g n:Nat}{l:List Int}(h:IBlk w g n l)(hp:g≠p):IntsX p w.heap.size w (some ⟨g,0,none⟩) l:=
 .inr ⟨g,0,rfl,h.lt,hp,fun i hi=>by rw[Nat.zero_add];exact h.at i hi⟩
theorem OwnI.intsX{p B:Nat}{a:Option Addr}{n cap:Nat}{l:List Int}{w:World}(h:OwnI B (.slice a n cap) l w)(hp:(Value.slice a n cap).ownBlock≠some p):IntsX p w.heap.size w a l:=by
 rcases h.blk with ⟨_,h1⟩|⟨g,c,hv,_,h1⟩
 ·exact .inl h1
 ·injection hv with hv _ _
  subst hv
  exact IBlk.intsX h1 (fun e=>hp (by rw[e];rfl))
theorem IntsX.grown{p:Nat}{w w':World}{a:Option Addr}{l:List Int}(h:IntsX p w.heap.size w a l)(hg:w.grownBy w' (some p)):IntsX p w'.heap.size w' a l:=by
 rcases h with h|⟨b,o,rfl,h1,h2,h3⟩
 ·exact .inl h
 ·exact .inr ⟨b,o,rfl,Nat.lt_of_lt_of_le h1 hg.size,h2,fun i hi=>World.grownBy.cell hg (h3 i hi) (fun e=>h2 (by injection e))⟩
theorem LiesX.grown{p:Nat}{w w':World}{a:Option Addr}{l:List Nd}(h:LiesX p w.heap.size w a l)(hg:w.grownBy w' (some p)):LiesX p w'.heap.size w' a l:=by
 rcases h with h|⟨b,o,rfl,h1,h2,h3⟩
 ·exact .inl h
 ·refine .inr ⟨b,o,rfl,Nat.lt_of_lt_of_le h1 hg.size,h2,fun i hi=> ?_⟩
  obtain⟨ak,ck,⟨c0,c1,c2,c3,c4⟩,h4⟩:=h3 i hi
  have hne:∀j,some (⟨b,j,none⟩:Addr).block≠some p:=fun j e=>h2 (by injection e)
  exact⟨ak,ck,⟨World.grownBy.cell hg c0 (hne _),World.grownBy.cell hg c1 (hne _),World.grownBy.cell hg c2 (hne _),World.grownBy.cell hg c3 (hne _),World.grownBy.cell hg c4 (hne _)⟩,h4.grown hg⟩
theorem LiesX.lies{p B:Nat}{w:World}{a:Option Addr}{l:List Nd}(h:LiesX p B w a l):Lies B w a l:=by
 rcases h with h|⟨b,o,rfl,h1,h2,h3⟩
 ·exact .inl h
 ·refine .inr ⟨b,o,rfl,h1,fun i hi=> ?_⟩
  obtain⟨ak,ck,h5,h4⟩:=h3 i hi
  exact⟨ak,ck,h5,h4.imp id (fun⟨b,o,e,h1,_,h3⟩=>⟨b,o,e,h1,h3⟩)⟩
theorem LiesX.take{p B:Nat}{w:World}{a:Option Addr}{l:List Nd}(h:LiesX p B w a l)(k:Nat):LiesX p B w a (l.take k):=by
 rcases h with h|⟨b,o,rfl,h1,h2,h3⟩
 ·exact .inl (by rw[h];simp)
 ·refine .inr ⟨b,o,rfl,h1,h2,fun i hi=> ?_⟩
  rw[List.getElem_take]
  exact h3 i _
def Wild(q:List Nd):Prop:=q.length≤4600∧(∀t∈q,t.kids.length≤1001)∧∀t∈q,Sh t
def BOut(B p:Nat)(a:Option Addr)(len cap:Nat)(zs:List Int)(w:World)(e:Ending)(w':World):Prop:=
 ∃q a2 c2 s',e= .returned (.slice a2 q.length c2)∧LiesX p w'.heap.size w' a2 q∧q.length≤c2∧Wild q∧In B w' p a len cap zs s'∧w.grownBy w' (some p)
def BOutD(B p:Nat)(a:Option Addr)(len cap:Nat)(zs:List Int)(w:World)(e:Ending)(w':World):Prop:=
 ∃q a2 c2 s',e= .returned (.slice a2 q.length c2)∧LiesX p w'.heap.size w' a2 q∧q.length≤c2∧Wild q∧In B w' p a len cap zs s'∧w.grownBy w' (some p)∧dq.Dq q
theorem BOutD.out{B p:Nat}{a:Option Addr}{len cap:Nat}{zs:List Int}{w:World}{e:Ending}{w':World}(h:BOutD B p a len cap zs w e w'):BOut B p a len cap zs w e w':=by
 obtain⟨q,a2,c2,s',h1,h2,h3,h4,h5,h6,_⟩:=h
 exact⟨q,a2,c2,s',h1,h2,h3,h4,h5,h6⟩
theorem dq_at{z:List (Nd×Value)}{q:List Nd}(hz:z.map (·.1)=q){k:Nat}(hk:k<z.length){t:Nd}(ht:t=z[k].1)(hp:dq.Pc 14 q):(∀n:Nd,n.kids.length=t.kids.length+1→dq.Dq ((z.map (·.1)).set k n))∧∀n:Nd,n.kids.length=t.kids.length→dq.Dq ((z.map (·.1)).set k n):=by
 subst hz ht
 have hl:k<(z.map (·.1)).length:=by rw[List.length_map];exact hk
 refine⟨fun n hn=>dq.dq_more hp hl n (by rw[List.getElem_map];exact hn),fun n hn=>dq.dq_set (dq.pc_dq hp (by decide)) hl n (by rw[List.getElem_map];exact hn)⟩
theorem TR.row{p S:Nat}{v:Value}{q:List Nd}{w:World}(h:TR p S v q w)(h0:0<q.length):∃g c z r,v= .slice (some ⟨g,0,none⟩) q.length c∧q.length≤c∧S≤g∧g<w.heap.size∧p<S∧z.map (·.1)=q∧z.length=q.length∧PT S (.slice (some ⟨g,0,none⟩) q.length c) z r w∧∀i (h:i<z.length),z[i].2≠.slice none 0 0→r i≠p∧S≤r i:=by
 obtain⟨h1,z,r,hz,hp,hr⟩:=h
 have hl:z.length=q.length:=by rw[←hz,List.length_map]
 rcases hp.own.2 with ⟨_,hn⟩|⟨g,c,cur,rfl,hg,hblk,hlc,_⟩
 ·omega
 ·refine⟨g,c,z,r,by rw[hl],by omega,hg,lt_of_heap hblk,h1,hz,hl,by rw[←hl];exact hp,fun i hi hne=>⟨hr i hi hne, ?_⟩⟩
  rcases hp.kid i hi with hk|⟨_,_,_,e3,_⟩
  ·exact absurd hk.1 hne
  ·exact e3
theorem pt_five{S g n c:Nat}{z:List (Nd×Value)}{r:Nat→Nat}{w:World}(h:PT S (.slice (some ⟨g,0,none⟩) n c) z r w){i:Nat}(hi:i<z.length):
  w.cell? ⟨g,i*5,none⟩=some (.int .i64 z[i].1.k)∧w.cell? ⟨g,i*5+1,none⟩=some (.int .i64 z[i].1.op)∧w.cell? ⟨g,i*5+2,none⟩=some (.string z[i].1.s)∧w.cell? ⟨g,i*5+3,none⟩=some (.string z[i].1.t)∧w.cell? ⟨g,i*5+4,none⟩=some z[i].2:=by
 obtain⟨a,c2,e⟩:=h.form
 injection e with e1 e2 e3
 subst e2 e3
 have hc:=fun j hj=>World.ownsRow.cellAt h.own j hj
 obtain⟨x0,x1,x2,x3,x4⟩:=fl_get z i hi
 exact⟨(hc _ (by omega)).trans x0,(hc _ (by omega)).trans x1,(hc _ (by omega)).trans x2,(hc _ (by omega)).trans x3,(hc _ (by omega)).trans x4⟩
theorem bent_lies{p S g n c k:Nat}{z:List (Nd×Value)}{r:Nat→Nat}{w w5:World}(h:PT S (.slice (some ⟨g,0,none⟩) n c) z r w)(hk:k<z.length)(hg:g<w5.heap.size)(hgp:g≠p)(m:List Int)(a':Option Addr)(c':Nat)
  (h1:∀j v,j≠k*5+4→w.cell? ⟨g,j,none⟩=some v→w5.cell? ⟨g,j,none⟩=some v) (h2:w5.cell? ⟨g,k*5+4,none⟩=some (.slice a' m.length c')) (h3:IntsX p w5.heap.size w5 a' m)
  (h4:∀i (hi:i<z.length),i≠k→z[i].2≠.slice none 0 0→w5.heap[r i]? =w.heap[r i]?∧r i≠p):LiesX p w5.heap.size w5 (some ⟨g,0,none⟩) ((z.map (·.1)).set k {z[k].1 with kids:=m}):=by
 refine .inr ⟨g,0,rfl,hg,hgp,fun i hi=> ?_⟩
 simp only[List.length_set,List.length_map]at hi
 obtain⟨f0,f1,f2,f3,f4⟩:=pt_five h hi
 rw[Nat.zero_add]
 by_cases he:k=i
 ·subst he
  simp only[List.getElem_set_self]
  exact⟨a',c',⟨h1 _ _ (by omega) f0,h1 _ _ (by omega) f1,h1 _ _ (by omega) f2,h1 _ _ (by omega) f3,h2⟩,h3⟩
 ·simp only[List.getElem_set_ne he,List.getElem_map]
  rcases h.kid i hi with ⟨e1,e2⟩|⟨cap,e1,e2,e3⟩
  ·exact⟨none,0,⟨h1 _ _ (by omega) f0,h1 _ _ (by omega) f1,h1 _ _ (by omega) f2,h1 _ _ (by omega) f3,by rw[h1 _ _ (by omega) f4,e1,e2];rfl⟩,.inl e2⟩
  ·have e4:=h4 i hi (fun e=>he e.symm) (by rw[e1];simp)
   exact⟨_,cap,⟨h1 _ _ (by omega) f0,h1 _ _ (by omega) f1,h1 _ _ (by omega) f2,h1 _ _ (by omega) f3,by rw[h1 _ _ (by omega) f4,e1]⟩,IBlk.intsX (e2.of_block e4.1) e4.2⟩
theorem pt_lies{p S g n c:Nat}{z:List (Nd×Value)}{r:Nat→Nat}{w:World}(h:PT S (.slice (some ⟨g,0,none⟩) n c) z r w)(hg:g<w.heap.size)(hgp:g≠p)
  (h4:∀i (hi:i<z.length),z[i].2≠.slice none 0 0→r i≠p):LiesX p w.heap.size w (some ⟨g,0,none⟩) (z.map (·.1)):=by
 refine .inr ⟨g,0,rfl,hg,hgp,fun i hi=> ?_⟩
 simp only[List.length_map]at hi
 obtain⟨f0,f1,f2,f3,f4⟩:=pt_five h hi
 rw[Nat.zero_add]
 simp only[List.getElem_map]
 rcases h.kid i hi with ⟨e1,e2⟩|⟨cap,e1,e2,e3⟩
 ·exact⟨none,0,⟨f0,f1,f2,f3,by rw[f4,e1,e2];rfl⟩,.inl e2⟩
 ·exact⟨_,cap,⟨f0,f1,f2,f3,by rw[f4,e1]⟩,IBlk.intsX e2 (h4 i hi (by rw[e1];simp))⟩
theorem twice_lies{p S g n c g2 c2:Nat}{z:List (Nd×Value)}{r:Nat→Nat}{w w5:World}(h:PT S (.slice (some ⟨g,0,none⟩) n c) z r w)(ho:w5.ownsRow S 57 5 (.slice (some ⟨g2,0,none⟩) (z.length+z.length) c2) (z.length+z.length) (fl z++fl z))
  (hgp:g2≠p) (h4:∀i (hi:i<z.length),z[i].2≠.slice none 0 0→w5.heap[r i]? =w.heap[r i]?∧r i≠p):LiesX p w5.heap.size w5 (some ⟨g2,0,none⟩) (z.map (·.1)++z.map (·.1)):=by
 rw[←fl_append]at ho
 refine .inr ⟨g2,0,rfl,(World.ownsRow.lt ho g2 rfl).2,hgp,fun i hi=> ?_⟩
 simp only[List.length_append,List.length_map]at hi
 have F:i<(z++z).length:=by simpa using hi
 have hc:=fun j hj=>World.ownsRow.cellAt ho j hj
 obtain⟨x0,x1,x2,x3,x4⟩:=fl_get (z++z) i F
 obtain⟨j,hj,e⟩:∃j,∃hj:j<z.length,(z++z)[i]=z[j]:=by
  by_cases he:i<z.length
  ·exact⟨i,he,List.getElem_append_left he⟩
  ·exact⟨i-z.length,by omega,List.getElem_append_right (by omega)⟩
 have e2:(z.map (·.1)++z.map (·.1))[i]'(by simpa using hi)=z[j].1:=by
  have:(z.map (·.1)++z.map (·.1))[i]'(by simpa using hi)=((z++z).map (·.1))[i]'(by simpa using hi):=by simp only[List.map_append]
  rw[this,List.getElem_map,e]
 rw[e2,Nat.zero_add]
 rw[e]at x0 x1 x2 x3 x4
 have c0:=(hc _ (by omega)).trans x0
 have c1:=(hc _ (by omega)).trans x1
 have y:=(hc _ (by omega)).trans x2
 have c3:=(hc _ (by omega)).trans x3
 have c4:=(hc _ (by omega)).trans x4
 rcases h.kid j hj with ⟨e1,e2⟩|⟨cap,e1,e5,e3⟩
 ·exact⟨none,0,⟨c0,c1,y,c3,by rw[c4,e1,e2];rfl⟩,.inl e2⟩
 ·have e6:=h4 j hj (by rw[e1];simp)
  exact⟨_,cap,⟨c0,c1,y,c3,by rw[c4,e1]⟩,IBlk.intsX (e5.of_block e6.1) e6.2⟩
theorem step_append_int2{ops:Array Oper}{o:Oper}{a:Act}{w:World}{K:Act→World→Prop}{Q:Exit→Act→World→Prop}{E:Prop}(hgd:o.guard=none)(s x:Operand)
  (ho:o.op= .call {callee:= .builtin .append,args:= #[s,x],argTypes:= #[55,55]}) (B:Nat) (v:Value) (d:List Int) (z:Int) (hs:a.eval s=v)
  (hown:OwnI B v d w) (gz:Nat) (hx:a.eval x= .slice (some ⟨gz,0,none⟩) 1 1) (hz:w.heap[gz]? =some (.cells #[.int .i64 z] 3 (0,0))) (hn:d.length≤1048576) (hB:B≤w.heap.size)
  (h:∀g cap w',OwnI B (.slice (some ⟨g,0,none⟩) (d.length+1) cap) (d++[z]) w'→w.grownBy w' v.ownBlock→(v.ownBlock=some g∨w.heap.size≤g)→K (a.put o.dst (.slice (some ⟨g,0,none⟩) (d.length+1) cap)) w'):
  if Region.wanted o (yielded ops a.tmps)=true then Oper.wp Tryz.prog o a w K Q else E:=by
 obtain⟨i0,hi,F,G,y⟩:=info_parts Tryz.infoInt
 refine step_append_lies w hgd s x 55 ho B 3 i0 _ 1 8 Tryz.underlying55 hi F G y rfl (by decide) v d.length (ivals d) hs hown ⟨gz,0,none⟩ 1 1 [.int .i64 z] hx rfl ?_ ?_ (by decide) (by unfold maxLen;omega) (by omega) hB _ rfl ?_
 ·intro j u hj
  rw[show((⟨gz,0,none⟩:Addr).add j)=⟨gz,j,none⟩ by unfold Addr.add;split<;>simp_all]
  rw[cell_of_row _ gz j _ _ _ hz]
  simpa using hj
 ·intro u hu
  simp at hu
  rcases hu with rfl<;>rfl
 ·intro g cap w' hown' hg hor _
  refine h g cap w' ?_ hg (hor.imp id (fun e=>by omega))
  unfold OwnI
  rw[ivals_snoc,List.length_append]
  exact hown'
section
variable {B p len cap:Nat} {a:Option Addr} {zs:List Int}
theorem wild_of{q:List Nd}(h:Small 2300 q)(hs:∀t∈q,Sh t):Wild q:=⟨by have:=h.2.1;omega,fun t ht=>by have:=h.2.2 t ht;omega,hs⟩
theorem wild_set{q:List Nd}(h:Small 2300 q)(hs:∀t∈q,Sh t){k:Nat}(t:Nd)(ht:t.kids.length≤1001)(hst:Sh t):Wild (q.set k t):=by
 refine⟨by rw[List.length_set];have:=h.2.1;omega,fun u hu=> ?_,fun u hu=> ?_⟩
 ·rcases List.mem_or_eq_of_mem_set hu with hu|rfl
  ·have:=h.2.2 u hu;omega
  ·exact ht
 ·rcases List.mem_or_eq_of_mem_set hu with hu|rfl
  ·exact hs u hu
  ·exact hst
theorem pick4{w:World}{s:St}(k:Int)(H:In B w p a len cap zs s):
  Calls Tryz.prog 49 #[.pointer (some ⟨p,0,none⟩),.slice (some ⟨w.heap.size,0,none⟩) 4 4] (w.alloc (.cells #[.int .i64 (-1),.int .i64 k,.int .i64 0,.int .i64 99] 3)) (fun e w'=>∃x s',e= .returned (.int .i64 x)∧In B w' p a len cap zs s'∧w.grownBy w' (some p)):=by
 refine(pickInt_lit 4 [-1,k,0,99] H rfl (by decide) (by decide)).mono ?_
 rintro e w' ⟨⟨rfl,hI,hG⟩,_⟩
 exact⟨_,_,rfl,hI,hG⟩
theorem below1{w:World}{s:St}(k:Nat)(H:In B w p a len cap zs s):
  Calls Tryz.prog 48 #[.pointer (some ⟨p,0,none⟩),.int .i64 ((k:Int)+1)] w (fun e w'=>∃(x:Nat) (s':St),x≤k∧e= .returned (.int .i64 (x:Int))∧In B w' p a len cap zs s'∧w.grownBy w' (some p)):=by
 have hb:=exact_lt zs (k+1) s (by omega)
 have h:=bl_ok (K:=((exactG zs).bl (k+1) s).1) (k+1) (by omega) rfl H
 rw[show(((k+1:Nat)):Int)=(k:Int)+1 by omega]at h
 refine h.mono ?_
 rintro e w' ⟨rfl,hI,hG⟩
 exact⟨_,_,by omega,rfl,hI,hG⟩
theorem grown_drew{w w1:World}(h:w.grownBy w1 (some p)):w.grownBy w1.drew (some p):=⟨h.os,h.tape,h.output,h.size,h.block⟩
set_option maxHeartbeats 3200000 in
theorem bent_okD{w:World}{s:St}(H:In B w p a len cap zs s):
  Calls Tryz.prog 82 #[.pointer (some ⟨p,0,none⟩)] w (BOutD B p a len cap zs w):=by
 have HI:=hid H
 have HP:=H.lt
 clear H
 go_enter Tryz.func82,Tryz.ntmps82
 go_wp2_with fail
 refine(any_okx HI.out).mono ?_
 rintro e w1 ⟨q,s1,⟨v,rfl,T1,I1,G1⟩,hsm,hsh,har,hpc⟩
 have HDQ:=hid hpc
 clear har hpc
 obtain⟨g,c,z,r,rfl,hcq,hSg,hgw,hpS,hz,hzl,hpt,hr⟩:=T1.row hsm.1
 have an:=hsm.1
 have aj:=hsm.2.1
 have HSM:=hid hsm
 have HSH:=hid hsh
 have au:=hid G1
 have aq:=hid I1
 obtain⟨n,hn⟩:∃n,q.length=n:=⟨_,rfl⟩
 have HZ:=hid hz
 have HN:=hid hn
 have ag:=hid hpt
 have HR:=hid hr
 rw[hn]at hcq hzl ag an aj⊢
 obtain⟨k,hk⟩:∃k,((exactG zs).bl n s1).1=k:=⟨_,rfl⟩
 have hkn:=exact_lt zs n s1 (by omega)
 rw[hk]at hkn
 have HK:=hid hk
 clear T1 I1 G1 hsm hsh hz hn hpt hr hk
 go_wp2_with fail
 refine(bl_ok n (by omega) HK.out aq.out).mono ?_
 rintro e w2 ⟨rfl,I2,G2⟩
 obtain⟨s2,af⟩:∃s2,((exactG zs).bl n s1).2=s2:=⟨_,rfl⟩
 rw[af]at I2
 obtain⟨K,hK⟩:∃K,((exactG zs).bl 12 s2).1=K:=⟨_,rfl⟩
 have al:=exact_lt zs 12 s2 (by decide)
 rw[hK]at al
 have HKK:=hid hK
 have ai:=hid I2
 have am:=hid G2
 clear I2 G2 af hK
 go_wp2_with fail
 refine(bl_ok 12 (by decide) HKK.out ai.out).mono ?_
 rintro e w3 ⟨rfl,I3,G3⟩
 obtain⟨s3,ad⟩:∃s3,((exactG zs).bl 12 s2).2=s3:=⟨_,rfl⟩
 rw[ad]at I3
 have I:=hid I3
 have Z:=hid (grown_trans am.out G3)
 have G:=hid (grown_trans au.out Z.out)
 have hgp:g≠p:=by omega
 have HPT:=hid (pt_kept2 ag.out Z.out (by simp only[Value.ownBlock];intro e;injection e with e;exact hgp e) (fun i hi hne=>(HR.out i hi hne).1))
 have Y:g<w3.heap.size:=Nat.lt_of_lt_of_le hgw Z.size
 clear I3 G3 ad
 have HSZ:=hid G.size
 have HLI:=hid (show LiesX p w3.heap.size w3 (some ⟨g,0,none⟩) q by rw[←HZ.out];exact pt_lies HPT.out Y hgp (fun i hi hne=>(HR.out i hi hne).1))
 obtain⟨cur,hcur⟩:∃cur,w3.heap[g]? =some (.cells cur 57 (0,0)):=by
  rcases HPT.own.2 with ⟨h,_⟩|⟨g',cap',cur,h,_,hb,_⟩
  ·cases h
  ·injection h with h _ _
   injection h with h
   injection h with h _ _
   exact⟨cur,by rw[h];exact hb⟩
 have HCUR:=hid hcur
 have hkz:k<z.length:=by omega
 obtain⟨f0,f1,f2,f3,f4⟩:=pt_five HPT.out hkz
 obtain⟨ak,ck,hvk,_⟩:=(HPT.kid k hkz).form
 have hqk:z[k].1∈q:=by rw[←HZ.out];exact List.mem_map.2 ⟨_,List.getElem_mem hkz,rfl⟩
 have hkl:z[k].1.kids.length≤1000:=HSM.out.2.2 _ hqk
 have HSK:=hid (HSH.out _ hqk)
 have HKID:=hid (HPT.kid k hkz)
 have HOFF:=hid (HPT.off k hkz)
 have HKR:=hid (HR.out k hkz)
 obtain⟨t,ht⟩:∃t,t=z[k].1:=⟨_,rfl⟩
 rw[←ht]at hvk hkl HKID
 rw[hvk]at f4 HKID HKR
 have HT:=hid ht
 have ax:(0:Int)≤(k:Int):=by omega
 have av:(k:Int)<(n:Int):=by omega
 clear f0 f1 f2 f3 hcur hqk ht
 rcases(show K=0∨K=1∨K=2∨K=3∨4≤K by omega)with rfl|rfl|rfl|rfl|hK4
 ·go_wp2
  go_ret
  refine⟨q.take k,some ⟨g,0,none⟩,c,s3,by rw[List.length_take,HN.out,Nat.min_eq_left (by omega)];rfl, ?_,by rw[List.length_take];omega,⟨by rw[List.length_take];omega,fun t ht=>by have:=HSM.out.2.2 t (List.mem_of_mem_take ht);omega,fun t ht=>HSH.out t (List.mem_of_mem_take ht)⟩,I.out,G.out,dq.dq_take HDQ.out (by decide) k⟩
  exact HLI.take k
 ·have HOWN:=hid (show OwnI w.heap.size (.slice ak t.kids.length ck) t.kids w3.drew from HKID.own)
  have hob:(Value.slice ak t.kids.length ck).ownBlock=none∨((Value.slice ak t.kids.length ck).ownBlock=some (r k)∧r k≠p∧r k≠g∧w.heap.size≤r k):=by
   rcases HKID.out with ⟨e,_⟩|⟨cap,e,_,h3,_⟩
   ·left;rw[e];rfl
   ·right
    refine⟨by rw[e];rfl,(HKR.out (by rw[e];simp)).1,fun e2=>HOFF.out (by rw[e2];rfl),h3⟩
  have hop:(Value.slice ak t.kids.length ck).ownBlock≠some p:=by
   rcases hob with e|⟨e,h1,_⟩
   ·rw[e];simp
   ·rw[e];intro e2;injection e2 with e2;exact h1 e2
  have hog:(Value.slice ak t.kids.length ck).ownBlock≠some g:=by
   rcases hob with e|⟨e,_,h1,_⟩
   ·rw[e];simp
   ·rw[e];intro e2;injection e2 with e2;exact h1 e2
  have HPC:=hid (pick4 (k:Int) I.drew1)
  have ac:w3.drew.cell? ⟨g,k*5+4,none⟩=some (.slice ak t.kids.length ck):=f4
  have aw:∀z,(w3.drew.alloc z).cell? ⟨g,k*5+4,none⟩=some (.slice ak t.kids.length ck):=fun z=>cell_past z ac
  have HOB:=hid hob
  have HOP:=hid hop
  have HOG:=hid hog
  clear hob hop hog
  go_wp2
  go_region_law (first
   |(refine step_append_int2 (by rfl) _ _ (by rfl) w.heap.size _ t.kids x (by rfl) (ae.alloc _) w4.heap.size (by rfl) (by exact heap_alloc_new w4 _) (by omega) (by simp;exact Nat.le_succ_of_le aa.out) ?_
     intro g2 c2 w6 X J V
     have P:w6.heap[g]? =some (.cells cur 57 (0,0)):=(J.block g (by simp;exact Nat.lt_succ_of_lt (lt_of_heap F.out)) (fun e=>HOG.out e.symm)).trans ((Below.heap_alloc w4 _ g (lt_of_heap F.out)).trans F.out)
     have Y4:w6.cell? ⟨g,k*5+4,none⟩=some (.slice ak t.kids.length ck):=(World.cell?_of_block (a:=⟨g,k*5+4,none⟩) (P.trans HCUR.symm)).trans f4
     have Y5:w6.frozen? ⟨g,k*5+4,none⟩=false:=frozen_of_row _ _ _ _ _ P)
   |(go_simp
     go_at_call 49
     refine HPC.mono ?_
     rintro e w4 ⟨x,s4,rfl,I4,G4⟩
     have F:=hid ((G4.block g Y (fun e=>hgp (by injection e))).trans HCUR.out)
     have ae:=hid (OwnI.kept HOWN.out G4 HOP.out)
     have aa:=hid (Nat.le_trans HSZ.out G4.size)
     have S:=hid I4
     have O:=hid G4
     have X4:w4.cell? ⟨g,k*5+4,none⟩=some (.slice ak t.kids.length ck):=(World.cell?_of_block (a:=⟨g,k*5+4,none⟩) (F.trans HCUR.symm)).trans f4
     have X5:∀z,(w4.alloc z).cell? ⟨g,k*5+4,none⟩=some (.slice ak t.kids.length ck):=fun z=>cell_past z X4
     clear I4 G4))
  all_goals
   go_wp2
   go_ret
   have hgs:g<(w4.alloc (.cells #[.int .i64 x] 3)).heap.size:=by simp;exact Nat.lt_succ_of_lt (lt_of_heap F.out)
   have hbl:Below w.heap.size w4 (w6.setCell ⟨g,k*5+4,none⟩ (.slice (some ⟨g2,0,none⟩) (t.kids.length+1) c2)):=
    ((((Below.refl w.heap.size w4).alloc aa.out _).grown J (by simp;exact Nat.le_succ_of_le aa.out) (fun b hb=>(World.ownsRow.lt ae.out b hb).1))).setCell (p:=⟨g,k*5+4,none⟩) hSg _
   have ao:g2≠g:=by
    rcases V with e|e
    ·intro e2;exact HOG.out (by rw[e,e2])
    ·omega
   have ap:=OwnI.kept X (grown_one w6 g (k*5+4) (.slice (some ⟨g2,0,none⟩) (t.kids.length+1) c2)) (by simp only[Value.ownBlock];intro e;injection e with e;exact ao e)
   refine⟨(z.map (·.1)).set k {z[k].1 with kids:=t.kids++[x]},some ⟨g,0,none⟩,c,s4,by rw[List.length_set,List.length_map,hzl];rfl, ?_,by rw[List.length_set,List.length_map,hzl];exact hcq,by rw[HZ.out];exact wild_set HSM.out HSH.out _ (by simp;omega) HSK.out,S.keep hbl hpS,grown_below (grown_trans (grown_drew G.out) O.out) hbl rfl,(dq_at HZ.out hkz HT.out HDQ.out).1 _ (by simp)⟩
   refine bent_lies HPT.out hkz (by simp;exact lt_of_heap P) hgp _ (some ⟨g2,0,none⟩) c2 (fun j v hj hv=> ?_) ?_ (OwnI.intsX ap (by
    simp only[Value.ownBlock]
    intro e
    injection e with e
    rcases V with e2|e2
    ·exact HOP.out (by rw[e2,e])
    ·have:=S.lt;simp at e2;omega)) (fun i hi hik hne=> ?_)
   ·rw[World.cell?_setCell_other _ _ _ _ (by intro e;simp only[Addr.mk.injEq]at e;exact hj e.2.1.symm)]
    exact(World.cell?_of_block (a:=⟨g,j,none⟩) (P.trans HCUR.symm)).trans hv
   ·rw[World.cell?_setCell_same _ _ _ Y4,List.length_append]
    rfl
   ·have hir:g≠r i:=fun e=>HPT.off i hi (by rw[←e];rfl)
    have hri:=HPT.lt i hi
    have hrp:=(HR.out i hi hne).1
    have h1:w4.heap[r i]? =w3.heap[r i]? :=O.block (r i) hri (fun e=>hrp (by injection e))
    have h0:r i<w4.heap.size:=Nat.lt_of_lt_of_le hri O.size
    have h2:w6.heap[r i]? =w3.heap[r i]? :=(J.block (r i) (by simp;omega) (fun e=>by
     rcases HOB.out with e2|⟨e2,_⟩
     ·rw[e2]at e;cases e
     ·rw[e2]at e
      injection e with e
      rcases Nat.lt_or_ge i k with hlt|hge
      ·exact HPT.asc i k hlt hkz e
      ·exact HPT.asc k i (by omega) hi e.symm)).trans ((Below.heap_alloc w4 _ _ h0).trans h1)
    exact⟨((grown_one w6 g (k*5+4) _).block (r i) (by have:=J.size;simp at this;omega) (fun e=>hir (by injection e with e;exact e.symm))).trans h2,hrp⟩
 ·by_cases hke:t.kids.length=0
  ·have ah:¬(0:Int)<(t.kids.length:Int):=by omega
   go_wp2
   go_ret
   exact⟨q,some ⟨g,0,none⟩,c,s3,by rw[HN.out];rfl,HLI.out,by rw[HN.out];exact hcq,wild_of HSM.out HSH.out,I.out,G.out,dq.pc_dq HDQ.out (by decide)⟩
  ·have ah:(0:Int)<(t.kids.length:Int):=by omega
   obtain⟨cap,hak,hib,hrS,_⟩:∃cap,(Value.slice ak t.kids.length ck)= .slice (some ⟨r k,0,none⟩) t.kids.length cap∧IBlk w3 (r k) cap t.kids∧w.heap.size≤r k∧cap≤maxLen:=by
    rcases HKID.out with ⟨e,_⟩|h
    ·injection e with _ e _;omega
    ·exact h
   injection hak with hak _ hck
   subst hak hck
   have hrp:r k≠p:=by omega
   have hrg:g≠r k:=fun e=>HOFF.out (by rw[←e];rfl)
   have HBL:=hid (by
    have h:=below1 k I.drew1
    rw[←show IntKind.i64.wrap ((k:Int)+1)=(k:Int)+1 by rw[IntKind.wrap_i64];omega]at h
    exact h)
   have HIB:=hid hib
   have ac:w3.drew.cell? ⟨g,k*5+4,none⟩=some (.slice (some ⟨r k,0,none⟩) t.kids.length ck):=f4
   obtain⟨y0,az⟩:∃y0,w3.cell? ⟨r k,0,none⟩=some (.int .i64 y0):=⟨_,hib.at 0 (by omega)⟩
   have ar:=hib.lt
   have HFR:=hid (hib.frozen 0)
   clear hib
   go_wp2
   go_region_law (first
    |(go_simp
      go_at_call 48
      refine HBL.mono ?_
      rintro e w4 ⟨x,s4,hx,rfl,I4,G4⟩
      have ab:=hid (HIB.of_block (G4.block (r k) ar (fun e=>hrp (by injection e))))
      have F:=hid ((G4.block g Y (fun e=>hgp (by injection e))).trans HCUR.out)
      have S:=hid I4
      have O:=hid G4
      have Y0:=ab.at 0 (by omega)
      have Y1:=ab.frozen 0
      have X4:w4.cell? ⟨g,k*5+4,none⟩=some (.slice (some ⟨r k,0,none⟩) t.kids.length ck):=(World.cell?_of_block (a:=⟨g,k*5+4,none⟩) (F.trans HCUR.symm)).trans f4
      clear I4 G4))
   all_goals
    go_wp2
    go_ret
    obtain⟨y,hy⟩:∃y,y=IntKind.i64.wrap ((x:Int)-1):=⟨_,rfl⟩
    rw[←hy]
    have hbl:Below w.heap.size w4 (w4.setCell ⟨r k,0,none⟩ (.int .i64 y)):=(Below.refl w.heap.size w4).setCell (p:=⟨r k,0,none⟩) hrS _
    refine⟨(z.map (·.1)).set k {z[k].1 with kids:=t.kids.set 0 y},some ⟨g,0,none⟩,c,s4,by rw[List.length_set,List.length_map,hzl];rfl, ?_,by rw[List.length_set,List.length_map,hzl];exact hcq,by rw[HZ.out];exact wild_set HSM.out HSH.out _ (by simp;omega) HSK.out,S.keep hbl hpS,grown_below (grown_trans (grown_drew G.out) O.out) hbl rfl,(dq_at HZ.out hkz HT.out HDQ.out).2 _ (by simp)⟩
    refine bent_lies HPT.out hkz (by simp;exact lt_of_heap F.out) hgp _ (some ⟨r k,0,none⟩) ck (fun j v hj hv=> ?_) ?_ (IBlk.intsX (ab.set 0 y) hrp) (fun i hi hik hne=> ?_)
    ·rw[World.cell?_setCell_other _ _ _ _ (by intro e;simp only[Addr.mk.injEq]at e;first|exact hrg e.1|exact hrg e.1.symm)]
     exact(World.cell?_of_block (a:=⟨g,j,none⟩) (F.trans HCUR.symm)).trans hv
    ·rw[World.cell?_setCell_other _ _ _ _ (by intro e;simp only[Addr.mk.injEq]at e;first|exact hrg e.1|exact hrg e.1.symm),X4,List.length_set]
    ·have hri:=HPT.lt i hi
     have hrp':=(HR.out i hi hne).1
     have h1:w4.heap[r i]? =w3.heap[r i]? :=O.block (r i) hri (fun e=>hrp' (by injection e))
     refine⟨((grown_one w4 (r k) 0 _).block (r i) (Nat.lt_of_lt_of_le hri O.size) (fun e=> ?_)).trans h1,hrp'⟩
     injection e with e
     rcases Nat.lt_or_ge i k with hlt|hge
     ·exact HPT.asc i k hlt hkz e
     ·exact HPT.asc k i (by omega) hi e.symm
 ·have HOWN:=hid (show w3.ownsRow w.heap.size 57 5 (.slice (some ⟨g,0,none⟩) n c) n (fl z) by have:=HPT.own;unfold OwnN at this;rwa [hzl]at this)
  have HIF:=hid (info_parts Tryz.infoNode)
  have HFL:=hid (show(fl z).length=n*5 by rw[fl_len,hzl])
  have HONE:=hid (fl_one z HPT.kid)
  have HNEWS:=hid (show∀j u,(fl z)[j]? =some u→w3.cell? ((⟨g,0,none⟩:Addr).add j)=some u from HOWN.cells rfl)
  go_wp2_with (refine wpList_append_lies _ rfl _ _ 24 rfl w.heap.size 57 HIF.choose _ 5 72 Tryz.underlying24 HIF.choose_spec.1 HIF.choose_spec.2.1 HIF.choose_spec.2.2.1 HIF.choose_spec.2.2.2 rfl (by decide) (.slice (some ⟨g,0,none⟩) n c) n (fl z) rfl HOWN.out ⟨g,0,none⟩ n c (fl z) rfl HFL.out HNEWS.out HONE.out (by omega) (by unfold maxLen;omega) (by omega) HSZ.out _ rfl ?_;intro g2 c2 w6 X J V ay)
  go_ret
  have hbl:Below w.heap.size w3 w6:=(Below.refl w.heap.size w3).grown J HSZ.out (fun b hb=>by simp only[Value.ownBlock]at hb;injection hb with hb;omega)
  refine⟨z.map (·.1)++z.map (·.1),some ⟨g2,0,none⟩,c2,s3,by rw[List.length_append,List.length_map,hzl];rfl, ?_, ?_,⟨by rw[List.length_append,List.length_map,hzl];omega,fun t ht=> ?_,fun t ht=> ?_⟩,I.keep hbl hpS,grown_below G.out hbl rfl,by rw[HZ.out];exact dq.dq_twice HDQ.out⟩
  ·refine twice_lies HPT.out (by rw[hzl];exact X) ?_ (fun i hi hne=>⟨J.block (r i) (HPT.lt i hi) (fun e=>HPT.off i hi e.symm),(HR.out i hi hne).1⟩)
   rcases V with e|e
   ·simp only[Value.ownBlock]at e;injection e with e;omega
   ·have:=I.lt;omega
  ·rw[List.length_append,List.length_map,hzl]
   rcases X.2 with ⟨h,_⟩|⟨g',cap',cu',h,_,_,h5,_⟩
   ·cases h
   ·injection h with _ _ h
    rw[h];exact h5
  ·rw[HZ.out]at ht
   have:t∈q:=by rcases List.mem_append.1 ht with h|h<;>exact h
   have:=HSM.out.2.2 t this
   omega
  ·rw[HZ.out]at ht
   exact HSH.out t (by rcases List.mem_append.1 ht with h|h<;>exact h)
 ·have d0:=(neF (x:=(K:Int)) (c:=0) (by omega)).1
  have d1:=(neF (x:=(K:Int)) (c:=1) (by omega)).1
  have d2:=(neF (x:=(K:Int)) (c:=2) (by omega)).1
  have d3:=(neF (x:=(K:Int)) (c:=3) (by omega)).1
  go_wp2
  go_ret
  exact⟨q,some ⟨g,0,none⟩,c,s3,by rw[HN.out];rfl,HLI.out,by rw[HN.out];exact hcq,wild_of HSM.out HSH.out,I.out,G.out,dq.pc_dq HDQ.out (by decide)⟩
def WOut(B p:Nat)(a:Option Addr)(len cap:Nat)(zs:List Int)(w:World)(e:Ending)(w':World):Prop:=
 ∃q a2 c2 i s',e= .returned (.tuple #[.slice a2 q.length c2,.int .i64 i])∧ -1≤i∧i≤(q.length:Int)∧LiesX p w'.heap.size w' a2 q∧q.length≤c2∧Wild q∧In B w' p a len cap zs s'∧w.grownBy w' (some p)
def POut(w:World)(e:Ending)(w':World):Prop:=
 ∃q a2 c2 i,e= .returned (.tuple #[.slice a2 q.length c2,.int .i64 i])∧ -1≤i∧i≤(q.length:Int)∧Lies w'.heap.size w' a2 q∧q.length≤c2∧Wild q∧Below w.heap.size w w'
end
end Go.Proofs.YtnoagleifffkcaaGreatDoor.draw

namespace Go.Proofs.YtnoagleifffkcaaGreatDoor.draw
open Lib (hid)
open Go.ChangeShapes Go.WideShapes Go.ChangeAt Go.RowKit
open nd lcg
open sz (Sh expr_str stmt_str prog_str)
set_option linter.unusedVariables false
set_option maxRecDepth 20000
def cell4(t:Nd):Nat→Value
 |0=> .int .i64 t.k
 |1=> .int .i64 t.op
 |2=> .string t.s
 |_=> .string t.t
theorem poke_lies{p S g n c k d:Nat}{z:List (Nd×Value)}{r:Nat→Nat}{w:World}{v:Value}(h:PT S (.slice (some ⟨g,0,none⟩) n c) z r w)(hk:k<z.length)(hg:g<w.heap.size)(hgp:g≠p)(t':Nd)(hkids:t'.kids=z[k].1.kids)(hd:d<4)
  (e:∀j,j<4→cell4 t' j=if j=d then v else cell4 z[k].1 j)
  (hr:∀i (hi:i<z.length),z[i].2≠.slice none 0 0→r i≠p):LiesX p (w.setCell ⟨g,k*5+d,none⟩ v).heap.size (w.setCell ⟨g,k*5+d,none⟩ v) (some ⟨g,0,none⟩) ((z.map (·.1)).set k t'):=by
 refine .inr ⟨g,0,rfl,by simp;exact hg,hgp,fun i hi=> ?_⟩
 simp only[List.length_set,List.length_map]at hi
 obtain⟨f0,f1,f2,f3,f4⟩:=pt_five h hi
 rw[Nat.zero_add]
 have hoth:∀j u,j≠k*5+d→w.cell? ⟨g,j,none⟩=some u→(w.setCell ⟨g,k*5+d,none⟩ v).cell? ⟨g,j,none⟩=some u:=fun j u hj hu=>by
  rw[World.cell?_setCell_other _ _ _ _ (by intro e;simp only[Addr.mk.injEq]at e;exact hj e.2.1.symm)]
  exact hu
 have hsz:(w.setCell ⟨g,k*5+d,none⟩ v).heap.size=w.heap.size:=by simp
 have hkid:∃ak ck,z[i].2= .slice ak z[i].1.kids.length ck∧IntsX p (w.setCell ⟨g,k*5+d,none⟩ v).heap.size (w.setCell ⟨g,k*5+d,none⟩ v) ak z[i].1.kids:=by
  rcases h.kid i hi with ⟨e1,e2⟩|⟨cap,e1,e2,e3⟩
  ·exact⟨none,0,by rw[e1,e2];rfl,.inl e2⟩
  ·have hir:g≠r i:=fun e=>h.off i hi (by rw[←e];rfl)
   exact⟨_,cap,e1,IBlk.intsX (e2.of_block ((grown_one w g (k*5+d) v).block (r i) (h.lt i hi) (fun e=>hir (by injection e with e;exact e.symm)))) (hr i hi (by rw[e1];simp))⟩
 obtain⟨ak,ck,hv,hix⟩:=hkid
 rw[hv]at f4
 by_cases he:k=i
 ·subst he
  simp only[List.getElem_set_self]
  have hc:∀j,j<4→(w.setCell ⟨g,k*5+d,none⟩ v).cell? ⟨g,k*5+j,none⟩=some (cell4 t' j):=by
   intro j hj
   have hold:w.cell? ⟨g,k*5+j,none⟩=some (cell4 z[k].1 j):=by
    rcases j with _|_|_|_|_
    ·exact f0
    ·exact f1
    ·exact f2
    ·exact f3
    ·omega
   rw[e j hj]
   by_cases hjd:j=d
   ·subst hjd
    rw[if_pos rfl,World.cell?_setCell_same _ _ _ hold]
   ·rw[if_neg hjd]
    exact hoth _ _ (by omega) hold
  rw[←hkids]at f4 hix
  exact⟨ak,ck,⟨hc 0 (by decide),hc 1 (by decide),hc 2 (by decide),hc 3 (by decide),hoth _ _ (by omega) f4⟩,hix⟩
 ·simp only[List.getElem_set_ne he,List.getElem_map]
  exact⟨ak,ck,⟨hoth _ _ (by omega) f0,hoth _ _ (by omega) f1,hoth _ _ (by omega) f2,hoth _ _ (by omega) f3,hoth _ _ (by omega) f4⟩,hix⟩
theorem getD_sz{L:List ByteArray}(h:L.all (fun x=>decide (x.size≤16))=true)(i:Nat):(L.getD i ⟨#[]⟩).size≤16:=by
 rw[List.getD_eq_getElem?_getD]
 cases hi:L[i]? with
 |none=>exact Nat.zero_le _
 |some x=>exact of_decide_eq_true (List.all_eq_true.1 h x (List.mem_of_getElem? hi))
section
variable {B p len cap:Nat} {a:Option Addr} {zs:List Int}
theorem some47{w:World}{s:St}(H:In B w p a len cap zs s):
  Calls Tryz.prog 48 #[.pointer (some ⟨p,0,none⟩),.int .i64 47] w (fun e w'=>∃x s',e= .returned (.int .i64 x)∧In B w' p a len cap zs s'∧w.grownBy w' (some p)):=by
 refine(bl_ok 47 (by decide) rfl H).mono ?_
 rintro e w' ⟨rfl,hI,hG⟩
 exact⟨_,_,rfl,hI,hG⟩
theorem pick7{w:World}{s:St}(H:In B w p a len cap zs s):
  Calls Tryz.prog 49 #[.pointer (some ⟨p,0,none⟩),.slice (some ⟨w.heap.size,0,none⟩) 7 7] (w.alloc (.cells #[.int .i64 0,.int .i64 1,.int .i64 56,.int .i64 99,.int .i64 54,.int .i64 51,.int .i64 (-1)] 3)) (fun e w'=>∃x s',e= .returned (.int .i64 x)∧In B w' p a len cap zs s'∧w.grownBy w' (some p)):=by
 refine(pickInt_lit 7 [0,1,56,99,54,51,-1] H rfl (by decide) (by decide)).mono ?_
 rintro e w' ⟨⟨rfl,hI,hG⟩,_⟩
 exact⟨_,_,rfl,hI,hG⟩
theorem pick6{w:World}{s:St}(H:In B w p a len cap zs s):
  Calls Tryz.prog 81 #[.pointer (some ⟨p,0,none⟩),.slice (some ⟨w.heap.size,0,none⟩) 6 6] (w.alloc (.cells #[.string ⟨#[]⟩,.string ⟨#[120]⟩,.string ⟨#[105,102]⟩,.string ⟨#[108,101,110,103,116,104]⟩,.string ⟨#[49]⟩,.string ⟨#[47]⟩] 9)) (fun e w'=>∃(x:ByteArray) (s':St),x.size≤16∧e= .returned (.string x)∧In B w' p a len cap zs s'∧w.grownBy w' (some p)):=by
 refine(pick_lit 6 [⟨#[]⟩,⟨#[120]⟩,⟨#[105,102]⟩,⟨#[108,101,110,103,116,104]⟩,⟨#[49]⟩,⟨#[47]⟩] H rfl (by decide) (by decide)).mono ?_
 rintro e w' ⟨⟨rfl,hI,hG⟩,_⟩
 exact⟨_,_,getD_sz (by decide) _,rfl,hI,hG⟩
theorem pick3{w:World}{s:St}(H:In B w p a len cap zs s):
  Calls Tryz.prog 81 #[.pointer (some ⟨p,0,none⟩),.slice (some ⟨w.heap.size,0,none⟩) 3 3] (w.alloc (.cells #[.string ⟨#[]⟩,.string ⟨#[62]⟩,.string ⟨#[120]⟩] 9)) (fun e w'=>∃(x:ByteArray) (s':St),x.size≤16∧e= .returned (.string x)∧In B w' p a len cap zs s'∧w.grownBy w' (some p)):=by
 refine(pick_lit 3 [⟨#[]⟩,⟨#[62]⟩,⟨#[120]⟩] H rfl (by decide) (by decide)).mono ?_
 rintro e w' ⟨⟨rfl,hI,hG⟩,_⟩
 exact⟨_,_,getD_sz (by decide) _,rfl,hI,hG⟩
set_option maxRecDepth 20000 in
set_option maxHeartbeats 3200000 in
theorem spoilt_okD{w:World}{s:St}(H:In B w p a len cap zs s):
  Calls Tryz.prog 46 #[.pointer (some ⟨p,0,none⟩)] w (BOutD B p a len cap zs w):=by
 have HI:=hid H
 have HP:=H.lt
 clear H
 go_enter Tryz.func46,Tryz.ntmps46
 go_wp2_with fail
 refine(any_okx HI.out).mono ?_
 rintro e w1 ⟨q,s1,⟨v,rfl,T1,I1,G1⟩,hsm,hsh,har,hpc⟩
 have HDQ:=hid hpc
 clear har hpc
 obtain⟨g,c,z,r,rfl,hcq,hSg,hgw,hpS,hz,hzl,hpt,hr⟩:=T1.row hsm.1
 have ad:=hsm.1
 have aa:=hsm.2.1
 have HSM:=hid hsm
 have HSH:=hid hsh
 have af:=hid G1
 have ae:=hid I1
 obtain⟨n,hn⟩:∃n,q.length=n:=⟨_,rfl⟩
 have HZ:=hid hz
 have HN:=hid hn
 have Z:=hid hpt
 have HR:=hid (fun i hi hne=>(hr i hi hne).1)
 rw[hn]at hcq hzl Z ad aa⊢
 obtain⟨k,hk⟩:∃k,((exactG zs).bl n s1).1=k:=⟨_,rfl⟩
 have hkn:=exact_lt zs n s1 (by omega)
 rw[hk]at hkn
 have HK:=hid hk
 clear T1 I1 G1 hsm hsh hz hn hpt hr hk
 go_wp2_with fail
 refine(bl_ok n (by omega) HK.out ae.out).mono ?_
 rintro e w2 ⟨rfl,I2,G2⟩
 obtain⟨s2,Y⟩:∃s2,((exactG zs).bl n s1).2=s2:=⟨_,rfl⟩
 rw[Y]at I2
 obtain⟨K,hK⟩:∃K,((exactG zs).bl 14 s2).1=K:=⟨_,rfl⟩
 have ag:=exact_lt zs 14 s2 (by decide)
 rw[hK]at ag
 have HKK:=hid hK
 have ab:=hid I2
 have ac:=hid G2
 clear I2 G2 Y hK
 go_wp2_with fail
 refine(bl_ok 14 (by decide) HKK.out ab.out).mono ?_
 rintro e w3 ⟨rfl,I3,G3⟩
 obtain⟨s3,X⟩:∃s3,((exactG zs).bl 14 s2).2=s3:=⟨_,rfl⟩
 rw[X]at I3
 have S:=hid I3
 have V:=hid (grown_trans ac.out G3)
 have P:=hid (grown_trans af.out V.out)
 have hgp:g≠p:=by omega
 have HPT:=hid (pt_kept2 Z.out V.out (by simp only[Value.ownBlock];intro e;injection e with e;exact hgp e) HR.out)
 have G:g<w3.heap.size:=Nat.lt_of_lt_of_le hgw V.size
 clear I3 G3 X
 have HLI:=hid (show LiesX p w3.heap.size w3 (some ⟨g,0,none⟩) q by rw[←HZ.out];exact pt_lies HPT.out G hgp HR.out)
 obtain⟨cur,hcur⟩:∃cur,w3.heap[g]? =some (.cells cur 57 (0,0)):=by
  rcases HPT.own.2 with ⟨h,_⟩|⟨g',cap',cur,h,_,hb,_⟩
  ·cases h
  ·injection h with h _ _
   injection h with h
   injection h with h _ _
   exact⟨cur,by rw[h];exact hb⟩
 have HCUR:=hid hcur
 have hkz:k<z.length:=by omega
 have hqk:z[k].1∈q:=by rw[←HZ.out];exact List.mem_map.2 ⟨_,List.getElem_mem hkz,rfl⟩
 have HKL:=hid (show z[k].1.kids.length≤1001 by have:=HSM.out.2.2 _ hqk;omega)
 have HSK:=hid (HSH.out _ hqk)
 have ai:(0:Int)≤(k:Int):=by omega
 have ah:(k:Int)<(n:Int):=by omega
 clear hcur hqk
 rcases(show K=0∨K=1∨K=2∨K=3∨K=4∨5≤K by omega)with rfl|rfl|rfl|rfl|rfl|hK5
 ·go_wp2_with fail
  refine(some47 S.out).mono ?_
  rintro e w4 ⟨x,s4,rfl,I4,G4⟩
  have J:=hid I4
  have O:=hid G4
  have F:=hid (pt_kept2 HPT.out G4 (by simp only[Value.ownBlock];intro e;injection e with e;exact hgp e) HR.out)
  have y:w4.heap[g]? =some (.cells cur 57 (0,0)):=(G4.block g G (fun e=>hgp (by injection e))).trans HCUR.out
  have I:g<w4.heap.size:=Nat.lt_of_lt_of_le G G4.size
  obtain⟨f0,f1,f2,f3,f4⟩:=pt_five F.out hkz
  have Y4:w4.frozen? ⟨g,k*5,none⟩=false:=frozen_of_row _ _ _ _ _ y
  clear I4 G4 y
  go_wp2
  go_ret
  have hbl:Below w.heap.size w4 (w4.setCell ⟨g,k*5,none⟩ (.int .i64 x)):=(Below.refl w.heap.size w4).setCell (p:=⟨g,k*5,none⟩) hSg _
  refine⟨(z.map (·.1)).set k {z[k].1 with k:=x},some ⟨g,0,none⟩,c,s4,by rw[List.length_set,List.length_map,hzl];rfl, ?_,by rw[List.length_set,List.length_map,hzl];exact hcq,by rw[HZ.out];exact wild_set HSM.out HSH.out _ HKL.out HSK.out,J.keep hbl hpS,grown_below (grown_trans P.out O.out) hbl rfl,(dq_at HZ.out hkz rfl HDQ.out).2 _ (by rfl)⟩
  exact poke_lies (d:=0) F.out hkz I hgp _ rfl (by decide) (by intro j hj;rcases j with _|_|_|_|_<;>first|rfl|omega) HR.out
 ·go_wp2_with fail
  refine(pick7 S.out).mono ?_
  rintro e w4 ⟨x,s4,rfl,I4,G4⟩
  have J:=hid I4
  have O:=hid G4
  have F:=hid (pt_kept2 HPT.out G4 (by simp only[Value.ownBlock];intro e;injection e with e;exact hgp e) HR.out)
  have y:w4.heap[g]? =some (.cells cur 57 (0,0)):=(G4.block g G (fun e=>hgp (by injection e))).trans HCUR.out
  have I:g<w4.heap.size:=Nat.lt_of_lt_of_le G G4.size
  obtain⟨f0,f1,f2,f3,f4⟩:=pt_five F.out hkz
  have Y4:w4.frozen? ⟨g,k*5+1,none⟩=false:=frozen_of_row _ _ _ _ _ y
  clear I4 G4 y
  go_wp2
  go_ret
  have hbl:Below w.heap.size w4 (w4.setCell ⟨g,k*5+1,none⟩ (.int .i64 x)):=(Below.refl w.heap.size w4).setCell (p:=⟨g,k*5+1,none⟩) hSg _
  refine⟨(z.map (·.1)).set k {z[k].1 with op:=x},some ⟨g,0,none⟩,c,s4,by rw[List.length_set,List.length_map,hzl];rfl, ?_,by rw[List.length_set,List.length_map,hzl];exact hcq,by rw[HZ.out];exact wild_set HSM.out HSH.out _ HKL.out HSK.out,J.keep hbl hpS,grown_below (grown_trans P.out O.out) hbl rfl,(dq_at HZ.out hkz rfl HDQ.out).2 _ (by rfl)⟩
  exact poke_lies (d:=1) F.out hkz I hgp _ rfl (by decide) (by intro j hj;rcases j with _|_|_|_|_<;>first|rfl|omega) HR.out
 ·go_wp2_with fail
  refine(pick6 S.out).mono ?_
  rintro e w4 ⟨x,s4,hx,rfl,I4,G4⟩
  have J:=hid I4
  have O:=hid G4
  have F:=hid (pt_kept2 HPT.out G4 (by simp only[Value.ownBlock];intro e;injection e with e;exact hgp e) HR.out)
  have y:w4.heap[g]? =some (.cells cur 57 (0,0)):=(G4.block g G (fun e=>hgp (by injection e))).trans HCUR.out
  have I:g<w4.heap.size:=Nat.lt_of_lt_of_le G G4.size
  obtain⟨f0,f1,f2,f3,f4⟩:=pt_five F.out hkz
  have Y4:w4.frozen? ⟨g,k*5+2,none⟩=false:=frozen_of_row _ _ _ _ _ y
  clear I4 G4 y
  go_wp2
  go_ret
  have hbl:Below w.heap.size w4 (w4.setCell ⟨g,k*5+2,none⟩ (.string x)):=(Below.refl w.heap.size w4).setCell (p:=⟨g,k*5+2,none⟩) hSg _
  refine⟨(z.map (·.1)).set k {z[k].1 with s:=x},some ⟨g,0,none⟩,c,s4,by rw[List.length_set,List.length_map,hzl];rfl, ?_,by rw[List.length_set,List.length_map,hzl];exact hcq,by rw[HZ.out];exact wild_set HSM.out HSH.out _ HKL.out ⟨hx,HSK.out.2⟩,J.keep hbl hpS,grown_below (grown_trans P.out O.out) hbl rfl,(dq_at HZ.out hkz rfl HDQ.out).2 _ (by rfl)⟩
  exact poke_lies (d:=2) F.out hkz I hgp _ rfl (by decide) (by intro j hj;rcases j with _|_|_|_|_<;>first|rfl|omega) HR.out
 ·go_wp2_with fail
  refine(pick3 S.out).mono ?_
  rintro e w4 ⟨x,s4,hx,rfl,I4,G4⟩
  have J:=hid I4
  have O:=hid G4
  have F:=hid (pt_kept2 HPT.out G4 (by simp only[Value.ownBlock];intro e;injection e with e;exact hgp e) HR.out)
  have y:w4.heap[g]? =some (.cells cur 57 (0,0)):=(G4.block g G (fun e=>hgp (by injection e))).trans HCUR.out
  have I:g<w4.heap.size:=Nat.lt_of_lt_of_le G G4.size
  obtain⟨f0,f1,f2,f3,f4⟩:=pt_five F.out hkz
  have Y4:w4.frozen? ⟨g,k*5+3,none⟩=false:=frozen_of_row _ _ _ _ _ y
  clear I4 G4 y
  go_wp2
  go_ret
  have hbl:Below w.heap.size w4 (w4.setCell ⟨g,k*5+3,none⟩ (.string x)):=(Below.refl w.heap.size w4).setCell (p:=⟨g,k*5+3,none⟩) hSg _
  refine⟨(z.map (·.1)).set k {z[k].1 with t:=x},some ⟨g,0,none⟩,c,s4,by rw[List.length_set,List.length_map,hzl];rfl, ?_,by rw[List.length_set,List.length_map,hzl];exact hcq,by rw[HZ.out];exact wild_set HSM.out HSH.out _ HKL.out ⟨HSK.out.1,hx⟩,J.keep hbl hpS,grown_below (grown_trans P.out O.out) hbl rfl,(dq_at HZ.out hkz rfl HDQ.out).2 _ (by rfl)⟩
  exact poke_lies (d:=3) F.out hkz I hgp _ rfl (by decide) (by intro j hj;rcases j with _|_|_|_|_<;>first|rfl|omega) HR.out
 ·go_wp2_with fail
  refine(bent_okD S.out).mono ?_
  rintro e w4 ⟨q4,a4,c4,s4,rfl,h1,h2,h3,h4,h5,h6⟩
  have HF:=hid (And.intro h1 (And.intro h2 (And.intro h3 (And.intro h4 (And.intro (grown_trans P.out h5) h6)))))
  clear h1 h2 h3 h4 h5 h6
  go_wp2
  go_ret
  exact⟨q4,a4,c4,s4,rfl,HF.out⟩
 ·have d0:=(neF (x:=(K:Int)) (c:=0) (by omega)).1
  have d1:=(neF (x:=(K:Int)) (c:=1) (by omega)).1
  have d2:=(neF (x:=(K:Int)) (c:=2) (by omega)).1
  have d3:=(neF (x:=(K:Int)) (c:=3) (by omega)).1
  have d4:=(neF (x:=(K:Int)) (c:=4) (by omega)).1
  go_wp2
  go_ret
  exact⟨q,some ⟨g,0,none⟩,c,s3,by rw[HN.out];rfl,HLI.out,by rw[HN.out];exact hcq,wild_of HSM.out HSH.out,S.out,P.out,dq.pc_dq HDQ.out (by decide)⟩
def SOut(w:World)(e:Ending)(w':World):Prop:=
 ∃q a2 c2,e= .returned (.slice a2 q.length c2)∧Lies w'.heap.size w' a2 q∧q.length≤c2∧Wild q∧Below w.heap.size w w'
end
end Go.Proofs.YtnoagleifffkcaaGreatDoor.draw

namespace Go.Proofs.YtnoagleifffkcaaGreatDoor.draw
open Lib (hid)
open Go.ChangeShapes Go.WideShapes Go.ChangeAt Go.RowKit
open nd lcg
open ps (B5 set5 below_set5)
open sz (Sh)
set_option linter.unusedVariables false
set_option maxRecDepth 20000
theorem b5_grown{q p:Nat}{L:Int}{d i g s:Bool}{w w':World}(h:B5 q L d i g s w)(hg:w.grownBy w' (some p))(hne:q≠p):B5 q L d i g s w':=
 (hg.block q h.lt (by simpa using hne)).trans h
theorem b5_below{q:Nat}{L:Int}{d i g s:Bool}{w w':World}(h:B5 q L d i g s w)(hb:Below w.heap.size w w'):B5 q L d i g s w':=h.keep hb h.lt
theorem b5_other{q h:Nat}{L:Int}{d i g s:Bool}{w:World}(H:B5 q L d i g s w)(hne:q≠h)(j:Nat)(v:Value):B5 q L d i g s (w.setCell ⟨h,j,none⟩ v):=(Below.heap_setCell w ⟨h,j,none⟩ v q hne).trans H
section
variable {B p len cap:Nat} {a:Option Addr} {zs:List Int}
theorem In.over1{w:World}{s:St}(H:In B w p a len cap zs s)(o:Obj):In B (w.alloc o) p a len cap zs s:=H.keep ((Below.refl w.heap.size w).alloc (Nat.le_refl _) _) H.lt
theorem grown_over1{w w1:World}(h:w.grownBy w1 (some p))(o:Obj):w.grownBy (w1.alloc o) (some p):=grown_trans h (grown_below (grown_refl) ((Below.refl w1.heap.size w1).alloc (Nat.le_refl _) _) rfl)
def BlOut(B p:Nat)(a:Option Addr)(len cap:Nat)(zs:List Int)(n:Nat)(w:World)(e:Ending)(w':World):Prop:=
 ∃(K:Nat) (s':St),K<n∧e= .returned (.int .i64 K)∧In B w' p a len cap zs s'∧w.grownBy w' (some p)
theorem bl_some{w:World}{s:St}(n:Nat)(hn:0<n)(H:In B w p a len cap zs s):
  Calls Tryz.prog 48 #[.pointer (some ⟨p,0,none⟩),.int .i64 n] w (BlOut B p a len cap zs n w):=by
 refine(bl_ok n hn rfl H).mono ?_
 rintro e w' ⟨rfl,hI,hG⟩
 exact⟨_,_,exact_lt zs n s hn,rfl,hI,hG⟩
def OnOut(B p:Nat)(a:Option Addr)(len cap:Nat)(zs:List Int)(w:World)(e:Ending)(w':World):Prop:=
 ∃(b:Bool) (s':St),e= .returned (.bool b)∧In B w' p a len cap zs s'∧w.grownBy w' (some p)
theorem once_some{w:World}{s:St}(n:Int)(H:In B w p a len cap zs s):
  Calls Tryz.prog 45 #[.pointer (some ⟨p,0,none⟩),.int .i64 n] w (OnOut B p a len cap zs w):=by
 refine(once_any n H).mono ?_
 rintro e w' ⟨rfl,hI,hG⟩
 exact⟨_,_,rfl,hI,hG⟩
theorem pick3i{w:World}{s:St}(H:In B w p a len cap zs s):
  Calls Tryz.prog 49 #[.pointer (some ⟨p,0,none⟩),.slice (some ⟨w.heap.size,0,none⟩) 3 3] (w.alloc (.cells #[.int .i64 0,.int .i64 16,.int .i64 (-1)] 3)) (fun e w'=>∃x s',e= .returned (.int .i64 x)∧In B w' p a len cap zs s'∧w.grownBy w' (some p)):=by
 refine(pickInt_lit 3 [0,16,-1] H rfl (by decide) (by decide)).mono ?_
 rintro e w' ⟨⟨rfl,hI,hG⟩,_⟩
 exact⟨_,_,rfl,hI,hG⟩
def QOut(B p:Nat)(a:Option Addr)(len cap:Nat)(zs:List Int)(w:World)(e:Ending)(w':World):Prop:=
 ∃q a2 c2 s',e= .returned (.slice a2 q.length c2)∧LiesX p w'.heap.size w' a2 q∧Small 2300 q∧(∀t∈q,Sh t)∧(∀t∈q,ar.Ar t)∧In B w' p a len cap zs s'∧w.grownBy w' (some p)
def QOutD(B p:Nat)(a:Option Addr)(len cap:Nat)(zs:List Int)(w:World)(e:Ending)(w':World):Prop:=
 ∃q a2 c2 s',e= .returned (.slice a2 q.length c2)∧LiesX p w'.heap.size w' a2 q∧Small 2300 q∧(∀t∈q,Sh t)∧(∀t∈q,ar.Ar t)∧In B w' p a len cap zs s'∧w.grownBy w' (some p)∧dq.Pc 14 q
theorem TAnyX.liesD{w w':World}{e:Ending}(h:TAnyX B p a len cap zs w e w')(hp:p<w.heap.size):QOutD B p a len cap zs w e w':=by
 obtain⟨q,s1,⟨v,rfl,T1,I1,G1⟩,hsm,hsh,har,hpc⟩:=h
 obtain⟨g,c,z,r,rfl,hcq,hSg,hgw,hpS,hz,hzl,hpt,hr⟩:=T1.row hsm.1
 refine⟨q,_,c,s1,rfl, ?_,hsm,hsh,har,I1,G1,hpc⟩
 rw[←hz]
 exact pt_lies hpt hgw (by omega) (fun i hi hne=>(hr i hi hne).1)
theorem TAnyX.lies{w w':World}{e:Ending}(h:TAnyX B p a len cap zs w e w')(hp:p<w.heap.size):QOut B p a len cap zs w e w':=by
 obtain⟨q,a2,c2,s1,h1,h2,h3,h4,h5,h6,h7,_⟩:=h.liesD hp
 exact⟨q,a2,c2,s1,h1,h2,h3,h4,h5,h6,h7⟩
def PosOut(B p:Nat)(a:Option Addr)(len cap:Nat)(zs:List Int)(w:World)(e:Ending)(w':World):Prop:=
 ∃(L:Int) (d i g s:Bool) (s':St),e= .returned (.agg #[.int .i64 L,.bool d,.bool i,.bool g,.bool s])∧In B w' p a len cap zs s'∧w.grownBy w' (some p)
set_option maxHeartbeats 3200000 in
theorem pos_any{w:World}{s0:St}(H:In B w p a len cap zs s0):
  Calls Tryz.prog 23 #[.pointer (some ⟨p,0,none⟩)] w (PosOut B p a len cap zs w):=by
 have hlt:=H.lt
 have I0:=hid (In.over1 H (.cells #[.int .i64 0,.bool false,.bool false,.bool false,.bool false] 26))
 have G0:=hid (grown_over1 (p:=p) (grown_refl (w:=w)) (.cells #[.int .i64 0,.bool false,.bool false,.bool false,.bool false] 26))
 have R0:=hid (B5.new w 0 false false false false)
 have hrp:w.heap.size≠p:=by omega
 have HRP:=hid hrp
 have hlt':=hid hlt
 clear H
 go_enter Tryz.func23,Tryz.ntmps23
 go_wp2_with fail
 refine(bl_some 15 (by decide) I0.out).mono ?_
 rintro e w1 ⟨K,s1,hK,rfl,I1,g1⟩
 have J1:=hid I1
 have G1:=hid (grown_trans G0.out g1)
 have R1:=hid (b5_grown R0.out g1 HRP.out)
 clear I1 g1
 go_wp2_with fail
 refine(once_some 4 J1.out).mono ?_
 rintro e w2 ⟨i,s2,rfl,I2,g2⟩
 have J2:=hid I2
 have G2:=hid (grown_trans G1.out g2)
 have R2:=hid (b5_grown R1.out g2 HRP.out)
 clear I2 g2
 go_wp2_with fail
 refine(once_some 4 J2.out).mono ?_
 rintro e w3 ⟨g,s3,rfl,I3,g3⟩
 have J3:=hid I3
 have G3:=hid (grown_trans G2.out g3)
 have R3:=hid (b5_grown R2.out g3 HRP.out)
 clear I3 g3
 go_wp2_with fail
 refine(once_some 4 J3.out).mono ?_
 rintro e w4 ⟨s,s4,rfl,I4,g4⟩
 have J4:=hid I4
 have G4:=hid (grown_trans G3.out g4)
 have R4:=hid (b5_grown R3.out g4 HRP.out)
 clear I4 g4
 go_wp2_with fail
 obtain⟨q,hq⟩:∃q,q=w4.heap.size:=⟨_,rfl⟩
 obtain⟨W,hWe⟩:∃W,W=w4.alloc (.cells #[.int .i64 (1+(K:Int)),.bool false,.bool i,.bool g,.bool s] 26):=⟨_,rfl⟩
 have JW:=hid (show In B W p a len cap zs s4 by rw[hWe];exact In.over1 J4.out _)
 have GW:=hid (show w.grownBy W (some p) by rw[hWe];exact grown_over1 G4.out _)
 have RW:=hid (show B5 w.heap.size 0 false false false false W by rw[hWe];exact b5_below R4.out (lv.box_below _ _))
 have OW:=hid (show B5 q (1+(K:Int)) false i g s W by rw[hWe,hq];exact B5.new _ _ _ _ _ _)
 have hrq:w.heap.size<q:=by rw[hq];exact R4.lt
 have hqp:q≠p:=by omega
 have HQP:=hid hqp
 have HQR:=hid (Nat.le_of_lt hrq)
 have hne:w.heap.size≠q:=by omega
 have F:q≠w.heap.size:=by omega
 rw[←hWe,←hq]
 clear hWe hq hrq hqp hlt hrp
 refine(bl_some 12 (by decide) JW.out).mono ?_
 rintro e w5 ⟨K2,s5,j,rfl,I5,g5⟩
 have J5:=hid I5
 have G5:=hid (grown_trans GW.out g5)
 have R5:=hid (b5_grown RW.out g5 HRP.out)
 have O5:=hid (b5_grown OW.out g5 HQP.out)
 clear I5 g5
 have y:=hid j
 clear j hK
 have hcase:K2=0∨K2=1∨K2=2∨K2=3∨K2=4∨K2=5∨∃M,K2=M+6:=by
  rcases Nat.lt_or_ge K2 6 with h|h
  ·omega
  ·exact .inr (.inr (.inr (.inr (.inr (.inr ⟨K2-6,by omega⟩)))))
 rcases hcase with rfl|rfl|rfl|rfl|rfl|rfl|⟨M,rfl⟩
 ·obtain⟨r0,r1,r2,r3,r4⟩:=R5.c
  have fr:=R5.f
  have o0:=O5.c
  have fo:=O5.f
  go_wp2_with fail
  refine(pick3i J5.out).mono ?_
  rintro e w6 ⟨x,s6,rfl,I6,g6⟩
  have J6:=hid I6
  have G6:=hid (grown_trans G5.out g6)
  have R6:=hid (b5_grown R5.out g6 HRP.out)
  have O6:=hid (b5_grown O5.out g6 HQP.out)
  clear I6 g6 r0 r1 r2 r3 r4 fr o0 fo
  obtain⟨r0,r1,r2,r3,r4⟩:=R6.c
  have fr:=R6.f
  have o0:=O6.c
  have fo:=O6.f
  go_wp2
  have hqr:=HQR.out
  obtain⟨z0,z1,z2,z3,z4⟩:=(b5_other R6.out hne 0 (.int .i64 (x))).cput (x) (false) (i) (g) (s)
  have hfin:=hid (below_set5 ((Below.refl w.heap.size w6).setCell (p:=⟨q,0,none⟩) hqr (.int .i64 (x))) (Nat.le_refl _) (x) (false) (i) (g) (s))
  exact bodyPost_ret (v:= .agg #[.int .i64 (x),.bool (false),.bool (i),.bool (g),.bool (s)]) (by simp[results,Tryz.results23,go_sem,z0,z1,z2,z3,z4]) rfl ⟨_,_,_,_,_,_,rfl,J6.keep hfin.out (by have:=hlt'.out;omega),grown_below G6.out hfin.out rfl⟩
 ·obtain⟨r0,r1,r2,r3,r4⟩:=R5.c
  have fr:=R5.f
  have o0:=O5.c
  have fo:=O5.f
  go_wp2
  have hqr:=HQR.out
  obtain⟨z0,z1,z2,z3,z4⟩:=(b5_other R5.out hne 1 (.bool true)).cput (1+(K:Int)) (true) (i) (g) (s)
  have hfin:=hid (below_set5 ((Below.refl w.heap.size w5).setCell (p:=⟨q,1,none⟩) hqr (.bool true)) (Nat.le_refl _) (1+(K:Int)) (true) (i) (g) (s))
  exact bodyPost_ret (v:= .agg #[.int .i64 (1+(K:Int)),.bool (true),.bool (i),.bool (g),.bool (s)]) (by simp[results,Tryz.results23,go_sem,z0,z1,z2,z3,z4]) rfl ⟨_,_,_,_,_,_,rfl,J5.keep hfin.out (by have:=hlt'.out;omega),grown_below G5.out hfin.out rfl⟩
 ·obtain⟨r0,r1,r2,r3,r4⟩:=R5.c
  have fr:=R5.f
  have o0:=O5.c
  have fo:=O5.f
  go_wp2
  have hqr:=HQR.out
  obtain⟨z0,z1,z2,z3,z4⟩:=(b5_other (b5_other R5.out hne 0 (.int .i64 (14))) hne 1 (.bool true)).cput (14) (true) (i) (g) (s)
  have hfin:=hid (below_set5 (((Below.refl w.heap.size w5).setCell (p:=⟨q,0,none⟩) hqr (.int .i64 (14))).setCell (p:=⟨q,1,none⟩) hqr (.bool true)) (Nat.le_refl _) (14) (true) (i) (g) (s))
  exact bodyPost_ret (v:= .agg #[.int .i64 (14),.bool (true),.bool (i),.bool (g),.bool (s)]) (by simp[results,Tryz.results23,go_sem,z0,z1,z2,z3,z4]) rfl ⟨_,_,_,_,_,_,rfl,J5.keep hfin.out (by have:=hlt'.out;omega),grown_below G5.out hfin.out rfl⟩
 ·obtain⟨r0,r1,r2,r3,r4⟩:=R5.c
  have fr:=R5.f
  have o0:=O5.c
  have fo:=O5.f
  go_wp2
  have hqr:=HQR.out
  obtain⟨z0,z1,z2,z3,z4⟩:=(b5_other R5.out hne 0 (.int .i64 (1))).cput (1) (false) (i) (g) (s)
  have hfin:=hid (below_set5 ((Below.refl w.heap.size w5).setCell (p:=⟨q,0,none⟩) hqr (.int .i64 (1))) (Nat.le_refl _) (1) (false) (i) (g) (s))
  exact bodyPost_ret (v:= .agg #[.int .i64 (1),.bool (false),.bool (i),.bool (g),.bool (s)]) (by simp[results,Tryz.results23,go_sem,z0,z1,z2,z3,z4]) rfl ⟨_,_,_,_,_,_,rfl,J5.keep hfin.out (by have:=hlt'.out;omega),grown_below G5.out hfin.out rfl⟩
 ·obtain⟨r0,r1,r2,r3,r4⟩:=R5.c
  have fr:=R5.f
  have o0:=O5.c
  have fo:=O5.f
  go_wp2
  have hqr:=HQR.out
  obtain⟨z0,z1,z2,z3,z4⟩:=(b5_other R5.out hne 0 (.int .i64 (1))).cput (1) (false) (i) (g) (s)
  have hfin:=hid (below_set5 ((Below.refl w.heap.size w5).setCell (p:=⟨q,0,none⟩) hqr (.int .i64 (1))) (Nat.le_refl _) (1) (false) (i) (g) (s))
  exact bodyPost_ret (v:= .agg #[.int .i64 (1),.bool (false),.bool (i),.bool (g),.bool (s)]) (by simp[results,Tryz.results23,go_sem,z0,z1,z2,z3,z4]) rfl ⟨_,_,_,_,_,_,rfl,J5.keep hfin.out (by have:=hlt'.out;omega),grown_below G5.out hfin.out rfl⟩
 ·obtain⟨r0,r1,r2,r3,r4⟩:=R5.c
  have fr:=R5.f
  have o0:=O5.c
  have fo:=O5.f
  go_wp2
  have hqr:=HQR.out
  obtain⟨z0,z1,z2,z3,z4⟩:=(b5_other R5.out hne 0 (.int .i64 (1))).cput (1) (false) (i) (g) (s)
  have hfin:=hid (below_set5 ((Below.refl w.heap.size w5).setCell (p:=⟨q,0,none⟩) hqr (.int .i64 (1))) (Nat.le_refl _) (1) (false) (i) (g) (s))
  exact bodyPost_ret (v:= .agg #[.int .i64 (1),.bool (false),.bool (i),.bool (g),.bool (s)]) (by simp[results,Tryz.results23,go_sem,z0,z1,z2,z3,z4]) rfl ⟨_,_,_,_,_,_,rfl,J5.keep hfin.out (by have:=hlt'.out;omega),grown_below G5.out hfin.out rfl⟩
 ·have m0:¬(M:Int)+6=0:=by omega
  have m1:¬(M:Int)+6=1:=by omega
  have m2:¬(M:Int)+6=2:=by omega
  have m3:¬(M:Int)+6=3:=by omega
  have m4:¬(M:Int)+6=4:=by omega
  have m5:¬(M:Int)+6=5:=by omega
  obtain⟨r0,r1,r2,r3,r4⟩:=R5.c
  have fr:=R5.f
  have o0:=O5.c
  have fo:=O5.f
  go_wp2
  have hqr:=HQR.out
  obtain⟨z0,z1,z2,z3,z4⟩:=R5.cput (1+(K:Int)) (false) (i) (g) (s)
  have hfin:=hid (below_set5 (Below.refl w.heap.size w5) (Nat.le_refl _) (1+(K:Int)) (false) (i) (g) (s))
  exact bodyPost_ret (v:= .agg #[.int .i64 (1+(K:Int)),.bool (false),.bool (i),.bool (g),.bool (s)]) (by simp[results,Tryz.results23,go_sem,z0,z1,z2,z3,z4]) rfl ⟨_,_,_,_,_,_,rfl,J5.keep hfin.out (by have:=hlt'.out;omega),grown_below G5.out hfin.out rfl⟩
end
end Go.Proofs.YtnoagleifffkcaaGreatDoor.draw

namespace Go.Proofs.YtnoagleifffkcaaGreatDoor.draw
open Lib (hid)
open Go.ChangeShapes Go.WideShapes Go.ChangeAt Go.RowKit
open nd lcg
open ps (B5 set5 below_set5)
open sz (Sh)
set_option linter.unusedVariables false
set_option maxRecDepth 20000
section
variable {B p len cap:Nat} {a:Option Addr} {zs:List Int}
def DOut(B p:Nat)(a:Option Addr)(len cap:Nat)(zs:List Int)(w:World)(e:Ending)(w':World):Prop:=
 ∃q a2 c2 s',e= .returned (.slice a2 q.length c2)∧LiesX p w'.heap.size w' a2 q∧Wild q∧In B w' p a len cap zs s'∧w.grownBy w' (some p)
def DOutD(B p:Nat)(a:Option Addr)(len cap:Nat)(zs:List Int)(w:World)(e:Ending)(w':World):Prop:=
 ∃q a2 c2 s',e= .returned (.slice a2 q.length c2)∧LiesX p w'.heap.size w' a2 q∧Wild q∧In B w' p a len cap zs s'∧w.grownBy w' (some p)∧dq.Dq q
set_option maxHeartbeats 1600000 in
theorem l10Draw_anyD{w:World}{s:St}(H:In B w p a len cap zs s):
  Calls Tryz.prog 22 #[.pointer (some ⟨p,0,none⟩)] w (DOutD B p a len cap zs w):=by
 have HP:=hid H.lt
 have HI:=hid H
 clear H
 go_enter Tryz.func22,Tryz.ntmps22
 go_wp2_with fail
 refine(once_some 10 HI.out).mono ?_
 rintro e w1 ⟨b,s1,rfl,I1,g1⟩
 have j:=hid I1
 have G1:=hid g1
 clear I1 g1
 cases b
 ·go_wp2_with fail
  refine((some_okx j.out).mono (fun e w' h=>TAnyX.liesD h j.lt)).mono ?_
  rintro e w2 ⟨q,a2,c2,s2,rfl,hl,hsm,hsh,har,I2,g2,hpc⟩
  have HF:=hid (And.intro hl (And.intro (wild_of hsm hsh) (And.intro I2 (And.intro (grown_trans G1.out g2) (dq.pc_dq hpc (by decide))))))
  clear hl hsm hsh har I2 g2 hpc
  go_wp2
  go_ret
  exact⟨q,a2,c2,s2,rfl,HF.out⟩
 ·go_wp2_with fail
  refine(spoilt_okD j.out).mono ?_
  rintro e w2 ⟨q,a2,c2,s2,rfl,h3,h4,h5,I2,g2,h6⟩
  have HF:=hid (And.intro h3 (And.intro h5 (And.intro I2 (And.intro (grown_trans G1.out g2) h6))))
  clear h3 h4 h5 I2 g2 h6
  go_wp2
  go_ret
  exact⟨q,a2,c2,s2,rfl,HF.out⟩
theorem only0{m:Nat}{z:Int}(h:(#[.int .i64 0,.bool false,.bool false,.bool false,.bool false]:Array Value)[m]? =some (.int .i64 z)):m=0:=by
 rcases m with _|_|_|_|_|m
 ·rfl
 all_goals simp at h
theorem lies_store{q:List Nd}{a:Option Addr}{w:World}{R:Nat}(h:Lies w.heap.size w a q)(hR:B5 R 0 false false false false w)(hw:Wild q)(L:Int)(d i g s:Bool):∃q',q'.length=q.length∧Lies (set5 w R L d i g s).heap.size (set5 w R L d i g s) a q'∧Wild q'∧dq.ar q'=dq.ar q:=by
 have hP:=hR.put L d i g s
 have hsz:(set5 w R L d i g s).heap.size=w.heap.size:=by unfold set5;simp
 have hoth:∀k,k≠R→(set5 w R L d i g s).heap[k]? =w.heap[k]? :=fun k hk=>by
  unfold set5
  rw[heap_setCell_other _ ⟨R,4,none⟩ k _ hk,heap_setCell_other _ ⟨R,3,none⟩ k _ hk,heap_setCell_other _ ⟨R,2,none⟩ k _ hk,heap_setCell_other _ ⟨R,1,none⟩ k _ hk,heap_setCell_other _ ⟨R,0,none⟩ k _ hk]
 have hcell:∀k j,k≠R→(set5 w R L d i g s).cell? ⟨k,j,none⟩=w.cell? ⟨k,j,none⟩:=fun k j hk=>World.cell?_of_block (a:=⟨k,j,none⟩) (hoth k hk)
 obtain⟨W,hW⟩:∃W,W=set5 w R L d i g s:=⟨_,rfl⟩
 rw[←hW]at hP hsz hoth hcell⊢
 clear hW
 rcases h with h|⟨b,o,rfl,hb,hat⟩
 ·exact⟨q,rfl,.inl h,hw,rfl⟩
 ·by_cases h0:q.length=0
  ·exact⟨q,rfl,.inl (List.length_eq_zero_iff.1 h0),hw,rfl⟩
  ·have hne:b≠R:=by
    intro e
    subst e
    obtain⟨ak,ck,⟨c0,c1,c2,c3,c4⟩,_⟩:=hat 0 (by omega)
    rw[cell_of_row _ _ _ _ _ _ hR]at c1
    have:=only0 c1
    omega
   have step:∀x:Fin q.length,∃t:Nd,(∃ak ck,Five W b (o+x.1*5) t ak ck∧Ints W.heap.size W ak t.kids)∧t.kids.length=(q[x.1]'x.2).kids.length∧Sh t:=by
    intro x
    obtain⟨ak,ck,⟨c0,c1,c2,c3,c4⟩,hk⟩:=hat x.1 x.2
    have hsh:=hw.2.2 _ (List.getElem_mem x.2)
    rw[←hcell b _ hne]at c0 c1 c2 c3 c4
    rcases hk with hk|⟨bk,ok,rfl,hbk,hc⟩
    ·exact⟨_,⟨ak,ck,⟨c0,c1,c2,c3,c4⟩,.inl hk⟩,rfl,hsh⟩
    ·by_cases e:bk=R
     ·subst e
      refine⟨{(q[x.1]'x.2)with kids:=(q[x.1]'x.2).kids.map fun _=>L},⟨some ⟨bk,ok,none⟩,ck,⟨c0,c1,c2,c3,by rw[List.length_map];exact c4⟩,.inr ⟨bk,ok,rfl,by rw[hsz];exact hbk,fun j hj=> ?_⟩⟩,List.length_map ..,hsh⟩
      rw[List.length_map]at hj
      have c:=hc j hj
      rw[cell_of_row _ _ _ _ _ _ hR]at c
      have e0:=only0 c
      rw[cell_of_row _ _ _ _ _ _ hP,e0,List.getElem_map]
      rfl
     ·exact⟨_,⟨_,ck,⟨c0,c1,c2,c3,c4⟩,.inr ⟨bk,ok,rfl,by rw[hsz];exact hbk,fun j hj=>by rw[hcell bk _ e];exact hc j hj⟩⟩,rfl,hsh⟩
   have hq:∀t∈List.ofFn (fun x=>Classical.choose (step x)),∃x:Fin q.length,t=Classical.choose (step x):=fun t ht=>by
    obtain⟨x,hx⟩:=List.mem_ofFn.1 ht
    exact⟨x,hx.symm⟩
   refine⟨List.ofFn (fun x=>Classical.choose (step x)),List.length_ofFn,.inr ⟨b,o,rfl,by rw[hsz];exact hb,fun j hj=> ?_⟩,⟨by rw[List.length_ofFn];exact hw.1,fun t ht=> ?_,fun t ht=> ?_⟩, ?_⟩
   ·rw[List.getElem_ofFn]
    rw[List.length_ofFn]at hj
    exact(Classical.choose_spec (step ⟨j,hj⟩)).1
   ·obtain⟨x,rfl⟩:=hq t ht
    rw[(Classical.choose_spec (step x)).2.1]
    exact hw.2.1 _ (List.getElem_mem x.2)
   ·obtain⟨x,rfl⟩:=hq t ht
    exact(Classical.choose_spec (step x)).2.2
   ·refine List.ext_getElem (by simp[dq.ar]) (fun m h1 h2=> ?_)
    simp only[dq.ar,List.getElem_map,List.getElem_ofFn]
    exact(Classical.choose_spec (step ⟨m,by simpa [dq.ar]using h2⟩)).2.1
def EOut(w:World)(e:Ending)(w':World):Prop:=
 ∃(q:List Nd) (a2:Option Addr) (c2:Nat) (L:Int) (d i g s:Bool),e= .returned (.tuple #[.slice a2 q.length c2,.agg #[.int .i64 L,.bool d,.bool i,.bool g,.bool s]])∧Lies w'.heap.size w' a2 q∧Wild q∧Below w.heap.size w w'
def EOutD(w:World)(e:Ending)(w':World):Prop:=
 ∃(q:List Nd) (a2:Option Addr) (c2:Nat) (L:Int) (d i g s:Bool),e= .returned (.tuple #[.slice a2 q.length c2,.agg #[.int .i64 L,.bool d,.bool i,.bool g,.bool s]])∧Lies w'.heap.size w' a2 q∧Wild q∧Below w.heap.size w w'∧dq.Dq q
set_option maxHeartbeats 1600000 in
theorem drawExprTokens_anyD{w:World}(hc:Code w.heap.size w a len zs)(hl:len≤1048576):
  Calls Tryz.prog 6 #[.slice a len cap] w (EOutD w):=by
 obtain⟨W2,j⟩:∃W2,W2=w.alloc (.cells #[.int .i64 0,.bool false,.bool false,.bool false,.bool false] 26):=⟨_,rfl⟩
 have F:=hid (show Below w.heap.size w W2 by rw[j];exact lv.box_below _ _)
 have HC:=hid (show Code W2.heap.size W2 a len zs from(hc.keep F.out).up F.size)
 have P:=hid (show B5 w.heap.size 0 false false false false W2 by rw[j];exact B5.new w 0 false false false false)
 have hs:W2.heap.size=w.heap.size+1:=by rw[j];simp
 obtain⟨p,hp⟩:∃p,p=W2.heap.size:=⟨_,rfl⟩
 have HPP:=hid (show w.heap.size≠p by omega)
 have HLP:=hid (show w.heap.size<p by omega)
 clear hc
 go_enter Tryz.func6,Tryz.ntmps6
 go_wp2_with fail
 rw[←j]
 clear j
 have hnew:=new_any (cap:=cap) HC.out (Nat.le_refl _) hl
 rw[←hp]at hnew
 refine hnew.mono ?_
 rintro e w1 ⟨rfl,I1,b1⟩
 have J1:=hid I1
 have V:=hid (P.keep b1 (by have:=HLP.out;omega))
 have B1:=hid (F.trans (b1.mono (by rw[hp];exact F.size)))
 clear I1 b1 hnew hs hp
 go_wp2_with fail
 refine(l10Draw_anyD J1.out).mono ?_
 rintro e w3 ⟨q,a2,c2,s3,rfl,l3,I,I3,g3,hdq⟩
 have HDQ:=hid hdq
 clear hdq
 have J3:=hid I3
 have HW:=hid I
 have L3:=hid l3
 have S:=hid (b5_grown V.out g3 HPP.out)
 have B3:=hid (B1.trans (below_of g3 (by have:=HLP.out;omega) B1.size))
 clear I3 g3 l3 I
 go_wp2_with fail
 refine(pos_any J3.out).mono ?_
 rintro e w5 ⟨L,d,i,g,s,s5,rfl,I5,g5⟩
 have y:=hid (b5_grown S.out g5 HPP.out)
 have X:=hid (B3.trans (below_of g5 (by have:=HLP.out;omega) B3.size))
 have L5:=hid (L3.grown g5).lies
 clear I5 g5
 have r0:=y.c
 have fr:=y.f
 go_wp2
 obtain⟨z0,z1,z2,z3,z4⟩:=y.cput L d i g s
 have hfin:=hid (below_set5 X.out (Nat.le_refl _) L d i g s)
 obtain⟨q',O,K,G,J⟩:=lies_store (q:=q) (a:=a2) L5.out y.out HW.out L d i g s
 have hfinq:=hid (And.intro K (And.intro G (dq.dq_ar J HDQ.out)))
 rw[←O]
 clear K G J
 exact bodyPost_ret (v:= .tuple #[.slice a2 q'.length c2,.agg #[.int .i64 L,.bool d,.bool i,.bool g,.bool s]]) (by simp[results,Tryz.results6,go_sem,z0,z1,z2,z3,z4]) rfl ⟨q',a2,c2,L,d,i,g,s,rfl,hfinq.out.1,hfinq.out.2.1,hfin.out,hfinq.out.2.2⟩
end
end Go.Proofs.YtnoagleifffkcaaGreatDoor.draw
