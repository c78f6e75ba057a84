/- A part. -/
import Derived.Test.YtebjmdpkobhcbaaGreatDoorRRa
namespace Go.Proofs.YtebjmdpkobhcbaaGreatDoor.qs
open Lib (hid)
open Go.ChangeShapes Go.WideShapes Go.ChangeAt Go.RowKit
open tk (Tk)
open nd (Nd PT KidV makeT)
open ps (Ps posOk)
open pe
open rt (isLval)
open operand (begins)
open lv (opLevel levelOf has)
open pr (Bk Gr X0 below_drewN eq_facts ne_facts fld_k fld_s)
set_option linter.unusedVariables false
set_option linter.unusedSimpArgs false
set_option maxRecDepth 20000
section
variable {w0:World} {l:List Tk} {a:Option Addr} {cap:Nat} {N0:List Tk} {s j:Nat} {v:Value} {E:Ps->Nat->R} {M:Nat}
set_option maxHeartbeats 12800000 in
theorem chain_lines(pl:Int)(pd pi pg psg:Bool)(w:World)(hst:Sq w0 l a cap N0 s j false v w)(hc:tk.Lies w0.heap.size w0 a l)(hl:l.length<=6000)(hl3:l.length<=3000)(L:Int)(hC:L=3\/L=4)(h99:∀m,¬kd l m=99)(hN0:N0.length+l.length<=200000)(hcat:L=8->∀t m,begins (kd l m)=true->pe.step E l (kd l m) (cp 8 pi pg) t m=over2 12 99 t (E (cp 9 pi pg) m))(RX:R)(hX:∀(v:Value) (w:World),Sq w0 l a cap N0 s j false v w->Calls Tryz.prog 63 #[.pointer (some ⟨w0.heap.size,0,none⟩),.agg #[.int .i64 (L+1),.bool false,.bool pi,.bool pg,.bool false]] w (Rq w0 l a cap N0 s j v w RX))(oX:Ok M l j RX)(sX:∀lv tg t m,RX= .ok lv tg t m->goes (kd l m) lv tg (cp (L+1) pi pg)=false/\L+1<=lv)(hE:CallS w0 l a cap N0 s E (j+1))(oE:∀p i,i<=l.length->Ok M l i (E p i)):
  Calls Tryz.prog 113 #[.pointer (some ⟨w0.heap.size,0,none⟩),.agg #[.int .i64 pl,.bool pd,.bool pi,.bool pg,.bool psg],.int .i64 L,.int .i64 3000] w (Rq w0 l a cap N0 s j v w (chainR E l L pi pg RX)):=by
 have HC:=hid hc
 have HL:=hid (show l.length<=100000 by omega)
 have b4:=hid hl
 have hL:binL L:=by unfold binL;omega
 have HX:=hid hX
 have OX:=hid oX
 have HE:=hid hE
 have OE:=hid oE
 have HAT:=hid (ok_at oX)
 have b5:=hid hl3
 have HBL:=hid hL
 have d0:=hid h99
 have cC:=hid hC
 have SX:=hid sX
 have cD:=hid hN0
 have d9:=hid hcat
 obtain⟨W,hW⟩:∃W,W=(w.alloc (.cells #[.int .i64 pl,.bool pd,.bool pi,.bool pg,.bool psg] 44)).alloc (.cells #[.slice none 0 0,.bool false] 95):=⟨_,rfl⟩
 have hB:Below w.heap.size w W:=by rw[hW];exact((Below.refl _ _).alloc (Nat.le_refl _) _).alloc (by simp) _
 have P0:=hid (show Mq w0.heap.size w.heap.size #[.int .i64 pl,.bool pd,.bool pi,.bool pg,.bool psg] 44 v W from Mq.of hst (by rw[hW];exact(Bk.new _ _ _).alloc _) (Nat.le_refl _))
 have R0:=hid (show Mq w0.heap.size (w.heap.size+1) #[.slice none 0 0,.bool false] 95 v W from Mq.of hst (by rw[hW];have:=Bk.new (w.alloc (.cells #[.int .i64 pl,.bool pd,.bool pi,.bool pg,.bool psg] 44)) #[.slice none 0 0,.bool false] 95;simpa using this) (Nat.le_succ _))
 have S0:=hid (hst.keep hB)
 have G0:=hid (show Gr (X0 w0.heap.size) v v w W from Gr.quiet hB)
 have HLT:=hid hst.lt
 have HBS:=hid hB.size
 have HJN:=hid hst.jn
 have HWS:=hid (show W.heap.size=w.heap.size+2 by rw[hW];simp)
 clear hB hst
 have hr:3<=L/\L<=10:=by unfold binL at hL;omega
 have HLR:=hid hr
 have d6:=hr.1
 have d4:=hr.2
 have hsd:∀op,opLevel op=L->(ps.sdS (opLevel op)).1=(ps.sdS L).1/\(ps.sdS (opLevel op)).2=rgt L:=fun op h=>⟨by rw[h],by rw[h];exact rgt_sides hL⟩
 have HSD:=hid hsd
 obtain⟨S1,cR⟩:∃S1,(ps.sdS L).1=S1:=⟨_,rfl⟩
 rw[cR]at HSD
 obtain⟨S2,bm⟩:∃S2,rgt L=S2:=⟨_,rfl⟩
 have dg:=hid bm
 rw[bm]at HSD
 clear hX oX hE oE hc hl hl3 hL h99 hN0 hcat sX hr hsd cR bm hC
 obtain⟨c1,c2,c3,c4⟩:=S0.c
 have m5:=P0.bk.c5
 have cU:=R0.bk.c2
 have cF:=R0.bk.f
 rw[hW]at c1 c2 c3 c4 m5 cU cF
 go_enter Tryz.func113,Tryz.ntmps113
 go_wp2_with fail
 rw[<-hW]
 clear c1 c2 c3 c4 m5 cU cF hW
 refine(any_level L _ HBL.out).mono ?_
 rintro e d8 ⟨⟨op,rfl,hop⟩,aW⟩
 have ci:=hid (S0.keep aW)
 have bG:=hid (P0.keep aW)
 have bB:=hid (R0.keep aW)
 have dk:=hid (G0.trans (Gr.quiet aW))
 clear aW
 have HOP:=hid hop
 clear hop
 have d3:=ci.c
 have d1:=bG.bk.c5
 have dh:=bB.bk.c2
 go_wp2_with fail
 clear d3 d1 dh
 refine(ps.spec_sides op _).mono ?_
 rw[(HSD.out op HOP.out).1,(HSD.out op HOP.out).2]
 rintro e ws ⟨rfl,rfl⟩
 have da:=ci.c
 have dd:=bG.bk.c5
 have cZ:=bB.bk.c2
 go_wp2_with fail
 clear da dd cZ
 refine(part_any _ _ _ _ _ _ _).mono ?_
 rintro e d2 ⟨rfl,bp⟩
 have cK:=hid (ci.keep bp)
 have cS:=hid (bG.keep bp)
 have cx:=hid (bB.keep bp)
 have dz:=hid (dk.trans (Gr.quiet bp))
 clear bp
 have du:=cK.c
 have dc:=cS.bk.c5
 have dm:=cx.bk.c2
 go_wp2_with fail
 clear du dc dm
 refine(HX.out v d2 cK.out).mono ?_
 rintro e ad ⟨T,cA,cj,cJ,rfl,s9,b6,t9,cG⟩
 have cI:=hid s9
 have cW:=hid (cS.go b6)
 have cE:=hid (cx.go b6)
 have dq:=hid (dz.trans b6)
 have df:=hid t9
 have cY:=hid cG
 obtain⟨bP,cr,rfl,dw⟩:=t9.lies
 clear s9 t9 b6 cG dw
 have HBX:=hid (show w.heap.size+1<_ from cx.bk.lt)
 have d7:=hid (show w.heap.size<ad.heap.size from cW.bk.lt)
 have dy:=hid (show(w.heap.size+1)<ad.heap.size from cE.bk.lt)
 obtain⟨b3,a5⟩:∃W,W=ad.alloc (.cells #[.slice bP cA.length cr,.bool cj] 95):=⟨_,rfl⟩
 have a6:Below ad.heap.size ad b3:=by rw[a5];exact(Below.refl _ _).alloc (Nat.le_refl _) _
 have cg:=hid (show Mq w0.heap.size ad.heap.size #[.slice bP cA.length cr,.bool cj] 95 cJ b3 from Mq.of cI.out (by rw[a5];exact Bk.new _ _ _) (Nat.le_refl _))
 have d5:=hid (show b3.heap.size=ad.heap.size+1 by rw[a5];simp)
 have cl:=hid (cI.keep a6)
 have cy:=hid (cW.keep a6)
 have bM:=hid (cE.keep a6)
 have cL:=hid (df.out.keep a6)
 have cQ:=hid (dq.trans (Gr.quiet a6))
 clear a6
 obtain⟨T,hT⟩:∃T,T=chainR E l L pi pg RX:=⟨_,rfl⟩
 have HT:=hid hT
 rw[<-hT]
 have HREL:=hid (show RelCh M w0 l a cap N0 s j E L pl pd pi pg psg 3000 T v w (ad.heap.size) (.int .i64 ((0:Nat):Int)) b3 from⟨0,atQ RX,bdQ RX,cJ,bP,cr,cA,cj,_,rfl,Nat.zero_le _,cl.out,cQ.out,cy.out,bM.out,cg.out,cL.out,HBX.out,by
   rw[hT]
   have hq:=cY.out
   have ho:=OX.out
   have hs:=SX.out
   clear hT
   cases RX with
   |bad m=>exact .inl ⟨rfl,rfl,hq⟩
   |ok lv tg t m=>exact .inr ⟨rfl,lv,tg,t,l.length+1,hq,ho,rfl,by omega,(hs _ _ _ _ rfl).1,.inl ⟨rfl,(hs _ _ _ _ rfl).2⟩,ho.1⟩⟩)
 have HGX:=hid (show w.heap.size+1<ad.heap.size from dy.out)
 have cH:=cl.c
 have cX:=cy.bk.c5
 have cV:=bM.bk.c2
 have cM:=cg.bk.c2
 rw[a5]at cH cX cV cM
 clear hT
 go_wp2
 rw[<-a5]
 clear cH cX cV cM a5
 obtain⟨gX,hgX⟩:∃gX,gX=ad.heap.size:=⟨_,rfl⟩
 rw[<-hgX]at HREL HGX|-
 clear hgX
 clear cy bM cg cL cl cQ cY
 go_loopw [12] (fun n wr=>RelCh M w0 l a cap N0 s j E L pl pd pi pg psg 3000 T v w gX n wr) (fun n _=>3001-(intOf n).toNat)
 case atStart=>exact HREL.out
 case round=>
  obtain⟨K,m,bd,vr,aT,cT,tt,hh,B,rfl,hK,hs,hg,hP,hR,hXB,hT,hBB,hway⟩:=hrel
  have Sr:=hid hs
  have Gr':=hid hg
  have Pr:=hid hP
  have Rr:=hid hR
  have XBr:=hid hXB
  have Xr:=hid hT
  have HBB:=hid hBB
  clear hs hg hP hR hXB hT hBB
  have HIS:=hid (fun W2 (h2:Sq w0 l a cap N0 s m bd vr W2)=>is_any L ⟨pl,pd,pi,pg,psg⟩ W2 h2 HC.out HL.out HBL.out)
  rcases hway with ⟨rfl,hTT,hwk⟩|⟨rfl,lv,tg,t',gf,hgt,hok,hTT,hgf,hst,hlv,hjm⟩
  ·
   have HTT:=hid (HT.symm.trans hTT)
   have HWK:=hid hwk
   clear hTT hwk
   by_cases bW:K<3000
   case pos=>
    have cO:(K:Int)<3000:=by omega
    have ah:=Sr.c
    have ag:=Pr.bk.c5
    have aj:=Rr.bk.c2
    have ae:=Rr.bk.f
    have an:=XBr.bk.c2
    go_wp2_with fail
    clear ah ag aj ae an
    refine(HIS.out _ Sr.out).mono ?_
    rintro e cd ⟨rfl,o⟩
    have aa:=hid (Sr.keep o)
    have am:=hid (Pr.keep o)
    have H:=hid (Rr.keep o)
    have af:=hid (XBr.keep o)
    have ar:=hid (Xr.keep o)
    have a3:=hid (Gr'.trans (Gr.quiet o))
    clear o
    have az:=aa.c
    have ap:=am.bk.c5
    have aw:=H.bk.c2
    have a2:=H.bk.f
    have ax:=af.bk.c2
    go_wp2
    clear az ap aw a2 ax
    obtain⟨b8,cm⟩:=(H.bk.put2 (.slice aT tt.length cT) (.bool hh)).c2
    exact bodyPost_ret (v:= .agg #[.slice aT tt.length cT,.bool hh]) (by simp[results,Tryz.results113,go_sem,b8,cm]) rfl (by rw[HTT.out];exact rq_end HLT.out (show Sq w0 l a cap N0 s m true _ _ from aa.out) a3.out H.out ar.out (by exact Nat.le_succ _) (by exact HBB.out) (HWK.out))
   case neg=>
    have cO:¬(K:Int)<3000:=by omega
    clear bW
    have ah:=Sr.c
    have ag:=Pr.bk.c5
    have aj:=Rr.bk.c2
    have ae:=Rr.bk.f
    have an:=XBr.bk.c2
    go_wp2
    clear ah ag aj ae an
    obtain⟨db,dj⟩:=(Rr.bk.put2 (.slice aT tt.length cT) (.bool hh)).c2
    exact bodyPost_ret (v:= .agg #[.slice aT tt.length cT,.bool hh]) (by simp[results,Tryz.results113,go_sem,db,dj]) rfl (by rw[HTT.out];exact rq_end HLT.out (show Sq w0 l a cap N0 s m true _ _ from Sr.out) Gr'.out Rr.out Xr.out (by exact Nat.le_succ _) (by exact HBB.out) (HWK.out))
  ·
   have de:=hok.2.1
   have HGT:=hid hgt
   have HOK:=hid hok
   have HJM:=hid hjm
   have HGF:=hid hgf
   have HTE:=hid hTT
   have bW:K<3000:=by have:=b5.out;omega
   have cO:(K:Int)<3000:=by omega
   have hiso:=is_op HBL.out (d0.out m) (by rcases hlv with ⟨-,h⟩|⟨-,h,-⟩;exact .inl h;exact .inr ⟨h,by have:=cC.out;omega⟩) hst
   clear hlv hst de bW
   obtain⟨c,hcc⟩:∃c,kd l m=c:=⟨_,rfl⟩
   have HCC:=hid hcc
   rw[hcc]at HIS hiso
   by_cases hop:isOp L pg c=true
   case neg=>
    have hop':isOp L pg c=false:=by simpa using hop
    rw[hop']at HIS hiso
    have HTT:=hid (HT.symm.trans (hTT.trans (go_stop (by rw[hcc];exact hiso) (by omega))))
    clear hop hop' hiso hgt hok hjm hgf hTT hcc
    have ah:=Sr.c
    have ag:=Pr.bk.c5
    have aj:=Rr.bk.c2
    have ae:=Rr.bk.f
    have an:=XBr.bk.c2
    go_wp2_with fail
    clear ah ag aj ae an
    refine(HIS.out _ Sr.out).mono ?_
    rintro e cd ⟨rfl,o⟩
    have aa:=hid (Sr.keep o)
    have am:=hid (Pr.keep o)
    have H:=hid (Rr.keep o)
    have af:=hid (XBr.keep o)
    have ar:=hid (Xr.keep o)
    have a3:=hid (Gr'.trans (Gr.quiet o))
    clear o
    have az:=aa.c
    have ap:=am.bk.c5
    have aw:=H.bk.c2
    have a2:=H.bk.f
    have ax:=af.bk.c2
    go_wp2
    clear az ap aw a2 ax
    obtain⟨b8,cm⟩:=(H.bk.put2 (.slice aT tt.length cT) (.bool hh)).c2
    exact bodyPost_ret (v:= .agg #[.slice aT tt.length cT,.bool hh]) (by simp[results,Tryz.results113,go_sem,b8,cm]) rfl (by rw[HTT.out];exact rq_end HLT.out (show Sq w0 l a cap N0 s m false _ _ from aa.out) a3.out H.out ar.out (by exact Nat.le_succ _) (by exact HBB.out) (HGT.out))
   case pos=>
    have HOP:=hid hop
    rw[hop]at HIS hiso
    have HGO:=hid (show goes (kd l m) lv tg (cp L pi pg)=true by rw[hcc];exact hiso)
    have HJL:=hid (show m<=l.length from hok.2.1)
    clear hop hiso hgt hok hjm hgf hTT
    have h8:¬L=8:=by have:=cC.out;omega
    obtain⟨hk_0,hk_2,hk_l⟩:=op_kind HBL.out h8 HOP.out
    have HKL:=hid hk_l
    have HBH:=hid (behind_op (l:=l) (m:=m) HBL.out h8 HOP.out)
    have HML:=hid (kd_lt (l:=l) (i:=m) (by rw[hcc];exact hk_0))
    have HNX:=hid (show¬kd l m=2 by rw[hcc];exact hk_2)
    have q8:(L==8)=false:=by rw[beq_eq_false_iff_ne];exact h8
    have HK:=hid (fun W2 (h2:Sq w0 l a cap N0 s m false vr W2)=>kind_any W2 h2 HC.out HL.out)
    rw[hcc]at HK
    have dp:=hid (show pe.step E l (kd l m) (cp L pi pg) t' m=over2 12 c t' (E (cp (rgt L) pi pg) (behind l c m)) by rw[hcc];exact step_op (by have:=HLR.out;omega) h8 HOP.out)
    have hmb:m<=3000:=by have:=HJL.out;have:=b5.out;omega
    clear hk_0 hk_2 hk_l hcc
    have HRG:=hid (rgt_range HBL.out)
    have bm:=dg.out
    subst bm
    have b2:=cC.out
    have dl:=hid (show behind l c m=(sk l (m+1)) by rw[HBH.out];exact if_pos b2)
    have a4:=hid (show m<(sk l (m+1))/\(sk l (m+1))<=l.length by have:=HML.out;have:=sk_le (l:=l) (i:=m+1) (by omega);omega)
    obtain⟨RY,hRY⟩:∃R,E (cp (rgt L) pi pg) (sk l (m+1))=R:=⟨_,rfl⟩
    have HRY:=hid hRY
    have ORY:=hid (show Ok M l (sk l (m+1)) RY by rw[<-hRY];exact OE.out _ _ a4.out.2)
    have HSTEP:=hid (show pe.step E l (kd l m) (cp L pi pg) t' m=over2 12 c t' RY by rw[dp.out,dl.out,hRY])
    clear hRY
    have dr:(L==3||L==4)=true:=by rcases b2 with h|h<;>simp[h]
    have hq:(L==3)=true\/((L==3)=false/\(L==4)=true):=by rcases b2 with h|h<;>simp[h]
    clear dr
    clear b2
    rcases hq with q3|⟨q3,q4⟩
    ·
     have ah:=Sr.c
     have ag:=Pr.bk.c5
     have aj:=Rr.bk.c2
     have ae:=Rr.bk.f
     have an:=XBr.bk.c2
     go_wp2_with fail
     clear ah ag aj ae an
     refine(HIS.out _ Sr.out).mono ?_
     rintro e cd ⟨rfl,o⟩
     have aa:=hid (Sr.keep o)
     have am:=hid (Pr.keep o)
     have H:=hid (Rr.keep o)
     have af:=hid (XBr.keep o)
     have ar:=hid (Xr.keep o)
     have a3:=hid (Gr'.trans (Gr.quiet o))
     clear o
     have az:=aa.c
     have ap:=am.bk.c5
     have aw:=H.bk.c2
     have a2:=H.bk.f
     have ax:=af.bk.c2
     go_wp2_with fail
     clear az ap aw a2 ax
     refine(HK.out _ aa.out).mono ?_
     rintro e aD ⟨rfl,O⟩
     have a0:=hid (aa.keep O)
     have aM:=hid (am.keep O)
     have a7:=hid (H.keep O)
     have bf:=hid (af.keep O)
     have bU:=hid (ar.keep O)
     have cc:=hid (a3.trans (Gr.quiet O))
     clear O
     have b7:=a0.c
     have ch:=aM.bk.c5
     have bK:=a7.bk.c2
     have c7:=bf.bk.c2
     have cn:=a0.f
     obtain⟨bt,ab⟩:∃W,W=aD.setCell ⟨w0.heap.size,1,none⟩ (.int .i64 ((m:Int)+1)):=⟨_,rfl⟩
     have bz:=hid (show Sq w0 l a cap N0 s (m+1) false vr bt by rw[ab];exact a0.next HML.out HNX.out)
     have Z:Gr (X0 w0.heap.size) vr vr aD bt:=by rw[ab];exact Gr.box rfl 1 _
     have bi:=hid (aM.go Z)
     have aV:=hid (a7.go Z)
     have aS:=hid (bf.go Z)
     have b9:=hid (bU.go Z)
     have bI:=hid (cc.trans Z)
     clear Z
     have aB:=bz.c
     have b1:=bi.bk.c5
     have bh:=aV.bk.c2
     have a8:=aS.bk.c2
     rw[ab]at aB b1 bh a8
     go_wp2_with fail
     rw[<-ab]
     clear b7 ch bK c7 cn aB b1 bh a8 ab
     refine(lines_any _ bz.out HC.out HL.out cD.out).mono ?_
     rintro e bX ⟨rfl,aC,aX,U⟩
     have aP:=hid (show Sq w0 l a cap N0 s (sk l (m+1)) false aC bX from aX)
     have bs:=hid (bi.go U)
     have aU:=hid (aV.go U)
     have br:=hid (aS.go U)
     have c8:=hid (b9.go U)
     have bH:=hid (bI.trans U)
     clear aX U
     have bE:=aP.c
     have ca:=bs.bk.c5
     have bY:=aU.bk.c2
     have bR:=br.bk.c2
     go_wp2_with fail
     clear bE ca bY bR
     refine(part_any _ _ _ _ _ _ _).mono ?_
     rintro e c9 ⟨rfl,N⟩
     have a9:=hid (aP.keep N)
     have bb:=hid (bs.keep N)
     have aA:=hid (aU.keep N)
     have au:=hid (br.keep N)
     have bV:=hid (c8.keep N)
     have ce:=hid (bH.trans (Gr.quiet N))
     clear N
     have bS:=a9.c
     have ck:=bb.bk.c5
     have bQ:=aA.bk.c2
     have c6:=au.bk.c2
     have bT:=au.bk.f
     go_wp2_with fail
     clear bS ck bQ c6 bT
     refine(show Calls _ _ _ _ (Rq w0 l a cap N0 s (sk l (m+1)) aC c9 RY) by rw[<-HRY.out];exact HE.out _ pi pg false (sk l (m+1)) _ _ (by have:=HRG.out;omega) (by have:=HRG.out;omega) (by have:=a4.out;have:=HJM.out;omega) a9.out).mono ?_
     rintro e J ⟨T,y,bj,al,rfl,s9,Q,t9,bw⟩
     have bl:=hid s9
     have aR:=hid (bb.go Q)
     have aY:=hid (aA.go Q)
     have bc:=hid (au.go Q)
     have co:=hid (bV.go Q)
     have cb:=hid (ce.trans Q)
     have cf:=hid t9
     have aQ:=hid bw
     obtain⟨ao,ai,rfl,bC⟩:=t9.lies
     clear s9 t9 Q bw bC
     have HWX:=hid (gt_wk1 HGT.out HOK.out)
     have HWY:=hid (gt_wk aQ.out ORY.out)
     have HOY:=hid (ok_at ORY.out)
     have dt:=hid (show w.heap.size<J.heap.size from aR.bk.lt)
     have dn:=hid (show(w.heap.size+1)<J.heap.size from aY.bk.lt)
     have di:=hid (show gX<J.heap.size from bc.bk.lt)
     obtain⟨P,V⟩:∃W,W=J.alloc (.cells #[.slice ao y.length ai,.bool bj] 95):=⟨_,rfl⟩
     have G:Below J.heap.size J P:=by rw[V];exact(Below.refl _ _).alloc (Nat.le_refl _) _
     have b0:=hid (show Mq w0.heap.size J.heap.size #[.slice ao y.length ai,.bool bj] 95 al P from Mq.of bl.out (by rw[V];exact Bk.new _ _ _) (Nat.le_refl _))
     have bJ:=hid (show P.heap.size=J.heap.size+1 by rw[V];simp)
     have aq:=hid (bl.keep G)
     have aF:=hid (aR.keep G)
     have bq:=hid (aY.keep G)
     have ak:=hid (bc.keep G)
     have aK:=hid (co.keep G)
     have bx:=hid (cf.out.keep G)
     have bL:=hid (cb.trans (Gr.quiet G))
     clear G
     have aZ:=aq.c
     have aI:=aF.bk.c5
     have aH:=bq.bk.c2
     have aN:=ak.bk.c2
     have ba:=ak.bk.f
     have aG:=b0.bk.c2
     rw[V]at aZ aI aH aN ba aG
     go_wp2_with fail
     rw[<-V]
     clear aZ aI aH aN ba aG V
     have bn:=aK.lies'
     have aE:=bx.lies'
     refine(over2_any bJ.out 12 c ⟨#[]⟩ tt y bn aE (wk_mono HWX.out (by have:=b4.out;have:=HJL.out;omega)) (wk_mono HWY.out (by have:=b4.out;have:=HOY.out;omega))).mono ?_
     rintro e ay ⟨T,z,r,rfl,hz,hp,aO,hr⟩
     have u2790:=Tq.of (aq.alloc (.cells #[.slice aT tt.length cT,.slice ao y.length ai] 26)) hp hr
     rw[hz]at u2790
     have bD:=hid (show(P.alloc (.cells #[.slice aT tt.length cT,.slice ao y.length ai] 26)).heap.size=P.heap.size+1 by simp)
     rw[bD.out]at u2790
     have cq:=hid u2790
     have C:Below P.heap.size P ay:=((Below.refl _ _).alloc (Nat.le_refl _) _).trans (aO.mono (by simp))
     have bg:=hid (aq.keep C)
     have bv:=hid (aF.keep C)
     have aJ:=hid (bq.keep C)
     have ac:=hid (ak.keep C)
     have ct:=hid (b0.keep C)
     have ds:=hid (aK.keep C)
     have dx:=hid (bx.keep C)
     have bZ:=hid (bL.trans (Gr.quiet C))
     obtain⟨D,A,rfl,-⟩:=u2790.lies
     clear u2790 hz hp hr aO C bn aE
     have HXL:=hid (show gX<_ from ak.bk.lt)
     have HRL:=hid (show w.heap.size+1<_ from Nat.lt_trans HGX.out HXL.out)
     have cz:=bg.c
     have c0:=bv.bk.c5
     have bO:=aJ.bk.c2
     have bF:=ac.bk.c2
     have cB:=ac.bk.f
     have bN:=ct.bk.c2
     go_wp2
     clear cz c0 bO bF cB bN
     go_roundw
     case rel=>
      obtain⟨a1,F⟩:∃W,W=((ay.setCell ⟨gX,0,none⟩ (.slice D (makeT (nd0 12 c ⟨#[]⟩) [tt,y]).length A)).setCell ⟨gX,1,none⟩ (.bool false)):=⟨_,rfl⟩
      have bA:=hid (by rw[F];exact((bg.out).mset ac.out 0 _).mset (ac.set 0 (.slice D (makeT (nd0 12 c ⟨#[]⟩) [tt,y]).length A)) 1 _:Sq w0 l a cap N0 s (atQ RY) (bdQ RY) al a1)
      have bo:=hid ((bv.oth (k:=gX) (by have:=HGX.out;omega) 0 (.slice D (makeT (nd0 12 c ⟨#[]⟩) [tt,y]).length A)).oth (k:=gX) (by have:=HGX.out;omega) 1 (.bool false))
      rw[<-F]at bo
      have be:=hid ((aJ.oth (k:=gX) (by have:=HGX.out;omega) 0 (.slice D (makeT (nd0 12 c ⟨#[]⟩) [tt,y]).length A)).oth (k:=gX) (by have:=HGX.out;omega) 1 (.bool false))
      rw[<-F]at be
      have cw:=hid (by rw[F];exact((ac.set 0 (.slice D (makeT (nd0 12 c ⟨#[]⟩) [tt,y]).length A)).set 1 (.bool false)):Mq w0.heap.size gX #[.slice D (makeT (nd0 12 c ⟨#[]⟩) [tt,y]).length A,.bool false] 95 al a1)
      have aL:=hid ((cq.out.low (g:=gX) (Nat.lt_succ_of_lt HXL.out) 0 (.slice D (makeT (nd0 12 c ⟨#[]⟩) [tt,y]).length A)).low (g:=gX) (Nat.lt_succ_of_lt HXL.out) 1 (.bool false))
      rw[<-F]at aL
      have bu:=hid ((bZ.set (g:=gX) (.inr (by have:=HGX.out;omega)) 0 (.slice D (makeT (nd0 12 c ⟨#[]⟩) [tt,y]).length A)).set (g:=gX) (.inr (by have:=HGX.out;omega)) 1 (.bool false))
      rw[<-F]at bu
      have dv:=hid (show a1.heap.size=ay.heap.size by rw[F];simp)
      rw[<-F]
      exact⟨K+1,atQ RY,bdQ RY,al,D,A,_,false,_,by go_num,by omega,bA.out,bu.out,bo.out,be.out,cw.out,aL.out,Nat.lt_succ_of_lt HRL.out,way_next HBL.out HKL.out HGT.out HOK.out HTE.out HGF.out HGO.out HSTEP.out (Nat.le_of_lt a4.out.1) aQ.out ORY.out HJM.out (by have:=a4.out;omega) b5.out⟩
     case measure=>first|(simp[intOf];done)|(simp[intOf];omega)
    ·
     have ah:=Sr.c
     have ag:=Pr.bk.c5
     have aj:=Rr.bk.c2
     have ae:=Rr.bk.f
     have an:=XBr.bk.c2
     go_wp2_with fail
     clear ah ag aj ae an
     refine(HIS.out _ Sr.out).mono ?_
     rintro e cd ⟨rfl,o⟩
     have aa:=hid (Sr.keep o)
     have am:=hid (Pr.keep o)
     have H:=hid (Rr.keep o)
     have af:=hid (XBr.keep o)
     have ar:=hid (Xr.keep o)
     have a3:=hid (Gr'.trans (Gr.quiet o))
     clear o
     have az:=aa.c
     have ap:=am.bk.c5
     have aw:=H.bk.c2
     have a2:=H.bk.f
     have ax:=af.bk.c2
     go_wp2_with fail
     clear az ap aw a2 ax
     refine(HK.out _ aa.out).mono ?_
     rintro e aD ⟨rfl,O⟩
     have a0:=hid (aa.keep O)
     have aM:=hid (am.keep O)
     have a7:=hid (H.keep O)
     have bf:=hid (af.keep O)
     have bU:=hid (ar.keep O)
     have cc:=hid (a3.trans (Gr.quiet O))
     clear O
     have b7:=a0.c
     have ch:=aM.bk.c5
     have bK:=a7.bk.c2
     have c7:=bf.bk.c2
     have cn:=a0.f
     obtain⟨bt,ab⟩:∃W,W=aD.setCell ⟨w0.heap.size,1,none⟩ (.int .i64 ((m:Int)+1)):=⟨_,rfl⟩
     have bz:=hid (show Sq w0 l a cap N0 s (m+1) false vr bt by rw[ab];exact a0.next HML.out HNX.out)
     have Z:Gr (X0 w0.heap.size) vr vr aD bt:=by rw[ab];exact Gr.box rfl 1 _
     have bi:=hid (aM.go Z)
     have aV:=hid (a7.go Z)
     have aS:=hid (bf.go Z)
     have b9:=hid (bU.go Z)
     have bI:=hid (cc.trans Z)
     clear Z
     have aB:=bz.c
     have b1:=bi.bk.c5
     have bh:=aV.bk.c2
     have a8:=aS.bk.c2
     rw[ab]at aB b1 bh a8
     go_wp2_with fail
     rw[<-ab]
     clear b7 ch bK c7 cn aB b1 bh a8 ab
     refine(lines_any _ bz.out HC.out HL.out cD.out).mono ?_
     rintro e bX ⟨rfl,aC,aX,U⟩
     have aP:=hid (show Sq w0 l a cap N0 s (sk l (m+1)) false aC bX from aX)
     have bs:=hid (bi.go U)
     have aU:=hid (aV.go U)
     have br:=hid (aS.go U)
     have c8:=hid (b9.go U)
     have bH:=hid (bI.trans U)
     clear aX U
     have bE:=aP.c
     have ca:=bs.bk.c5
     have bY:=aU.bk.c2
     have bR:=br.bk.c2
     go_wp2_with fail
     clear bE ca bY bR
     refine(part_any _ _ _ _ _ _ _).mono ?_
     rintro e c9 ⟨rfl,N⟩
     have a9:=hid (aP.keep N)
     have bb:=hid (bs.keep N)
     have aA:=hid (aU.keep N)
     have au:=hid (br.keep N)
     have bV:=hid (c8.keep N)
     have ce:=hid (bH.trans (Gr.quiet N))
     clear N
     have bS:=a9.c
     have ck:=bb.bk.c5
     have bQ:=aA.bk.c2
     have c6:=au.bk.c2
     have bT:=au.bk.f
     go_wp2_with fail
     clear bS ck bQ c6 bT
     refine(show Calls _ _ _ _ (Rq w0 l a cap N0 s (sk l (m+1)) aC c9 RY) by rw[<-HRY.out];exact HE.out _ pi pg false (sk l (m+1)) _ _ (by have:=HRG.out;omega) (by have:=HRG.out;omega) (by have:=a4.out;have:=HJM.out;omega) a9.out).mono ?_
     rintro e J ⟨T,y,bj,al,rfl,s9,Q,t9,bw⟩
     have bl:=hid s9
     have aR:=hid (bb.go Q)
     have aY:=hid (aA.go Q)
     have bc:=hid (au.go Q)
     have co:=hid (bV.go Q)
     have cb:=hid (ce.trans Q)
     have cf:=hid t9
     have aQ:=hid bw
     obtain⟨ao,ai,rfl,bC⟩:=t9.lies
     clear s9 t9 Q bw bC
     have HWX:=hid (gt_wk1 HGT.out HOK.out)
     have HWY:=hid (gt_wk aQ.out ORY.out)
     have HOY:=hid (ok_at ORY.out)
     have dt:=hid (show w.heap.size<J.heap.size from aR.bk.lt)
     have dn:=hid (show(w.heap.size+1)<J.heap.size from aY.bk.lt)
     have di:=hid (show gX<J.heap.size from bc.bk.lt)
     obtain⟨P,V⟩:∃W,W=J.alloc (.cells #[.slice ao y.length ai,.bool bj] 95):=⟨_,rfl⟩
     have G:Below J.heap.size J P:=by rw[V];exact(Below.refl _ _).alloc (Nat.le_refl _) _
     have b0:=hid (show Mq w0.heap.size J.heap.size #[.slice ao y.length ai,.bool bj] 95 al P from Mq.of bl.out (by rw[V];exact Bk.new _ _ _) (Nat.le_refl _))
     have bJ:=hid (show P.heap.size=J.heap.size+1 by rw[V];simp)
     have aq:=hid (bl.keep G)
     have aF:=hid (aR.keep G)
     have bq:=hid (aY.keep G)
     have ak:=hid (bc.keep G)
     have aK:=hid (co.keep G)
     have bx:=hid (cf.out.keep G)
     have bL:=hid (cb.trans (Gr.quiet G))
     clear G
     have aZ:=aq.c
     have aI:=aF.bk.c5
     have aH:=bq.bk.c2
     have aN:=ak.bk.c2
     have ba:=ak.bk.f
     have aG:=b0.bk.c2
     rw[V]at aZ aI aH aN ba aG
     go_wp2_with fail
     rw[<-V]
     clear aZ aI aH aN ba aG V
     have bn:=aK.lies'
     have aE:=bx.lies'
     refine(over2_any bJ.out 12 c ⟨#[]⟩ tt y bn aE (wk_mono HWX.out (by have:=b4.out;have:=HJL.out;omega)) (wk_mono HWY.out (by have:=b4.out;have:=HOY.out;omega))).mono ?_
     rintro e ay ⟨T,z,r,rfl,hz,hp,aO,hr⟩
     have u2790:=Tq.of (aq.alloc (.cells #[.slice aT tt.length cT,.slice ao y.length ai] 26)) hp hr
     rw[hz]at u2790
     have bD:=hid (show(P.alloc (.cells #[.slice aT tt.length cT,.slice ao y.length ai] 26)).heap.size=P.heap.size+1 by simp)
     rw[bD.out]at u2790
     have cq:=hid u2790
     have C:Below P.heap.size P ay:=((Below.refl _ _).alloc (Nat.le_refl _) _).trans (aO.mono (by simp))
     have bg:=hid (aq.keep C)
     have bv:=hid (aF.keep C)
     have aJ:=hid (bq.keep C)
     have ac:=hid (ak.keep C)
     have ct:=hid (b0.keep C)
     have ds:=hid (aK.keep C)
     have dx:=hid (bx.keep C)
     have bZ:=hid (bL.trans (Gr.quiet C))
     obtain⟨D,A,rfl,-⟩:=u2790.lies
     clear u2790 hz hp hr aO C bn aE
     have HXL:=hid (show gX<_ from ak.bk.lt)
     have HRL:=hid (show w.heap.size+1<_ from Nat.lt_trans HGX.out HXL.out)
     have cz:=bg.c
     have c0:=bv.bk.c5
     have bO:=aJ.bk.c2
     have bF:=ac.bk.c2
     have cB:=ac.bk.f
     have bN:=ct.bk.c2
     go_wp2
     clear cz c0 bO bF cB bN
     go_roundw
     case rel=>
      obtain⟨a1,F⟩:∃W,W=((ay.setCell ⟨gX,0,none⟩ (.slice D (makeT (nd0 12 c ⟨#[]⟩) [tt,y]).length A)).setCell ⟨gX,1,none⟩ (.bool false)):=⟨_,rfl⟩
      have bA:=hid (by rw[F];exact((bg.out).mset ac.out 0 _).mset (ac.set 0 (.slice D (makeT (nd0 12 c ⟨#[]⟩) [tt,y]).length A)) 1 _:Sq w0 l a cap N0 s (atQ RY) (bdQ RY) al a1)
      have bo:=hid ((bv.oth (k:=gX) (by have:=HGX.out;omega) 0 (.slice D (makeT (nd0 12 c ⟨#[]⟩) [tt,y]).length A)).oth (k:=gX) (by have:=HGX.out;omega) 1 (.bool false))
      rw[<-F]at bo
      have be:=hid ((aJ.oth (k:=gX) (by have:=HGX.out;omega) 0 (.slice D (makeT (nd0 12 c ⟨#[]⟩) [tt,y]).length A)).oth (k:=gX) (by have:=HGX.out;omega) 1 (.bool false))
      rw[<-F]at be
      have cw:=hid (by rw[F];exact((ac.set 0 (.slice D (makeT (nd0 12 c ⟨#[]⟩) [tt,y]).length A)).set 1 (.bool false)):Mq w0.heap.size gX #[.slice D (makeT (nd0 12 c ⟨#[]⟩) [tt,y]).length A,.bool false] 95 al a1)
      have aL:=hid ((cq.out.low (g:=gX) (Nat.lt_succ_of_lt HXL.out) 0 (.slice D (makeT (nd0 12 c ⟨#[]⟩) [tt,y]).length A)).low (g:=gX) (Nat.lt_succ_of_lt HXL.out) 1 (.bool false))
      rw[<-F]at aL
      have bu:=hid ((bZ.set (g:=gX) (.inr (by have:=HGX.out;omega)) 0 (.slice D (makeT (nd0 12 c ⟨#[]⟩) [tt,y]).length A)).set (g:=gX) (.inr (by have:=HGX.out;omega)) 1 (.bool false))
      rw[<-F]at bu
      have dv:=hid (show a1.heap.size=ay.heap.size by rw[F];simp)
      rw[<-F]
      exact⟨K+1,atQ RY,bdQ RY,al,D,A,_,false,_,by go_num,by omega,bA.out,bu.out,bo.out,be.out,cw.out,aL.out,Nat.lt_succ_of_lt HRL.out,way_next HBL.out HKL.out HGT.out HOK.out HTE.out HGF.out HGO.out HSTEP.out (Nat.le_of_lt a4.out.1) aQ.out ORY.out HJM.out (by have:=a4.out;omega) b5.out⟩
     case measure=>first|(simp[intOf];done)|(simp[intOf];omega)
end
section
variable {w0:World} {l:List Tk} {a:Option Addr} {cap:Nat} {N0:List Tk} {s j:Nat} {v:Value} {E:Ps->Nat->R} {M:Nat}
set_option maxHeartbeats 12800000 in
theorem chain_many(pl:Int)(pd pi pg psg:Bool)(w:World)(hst:Sq w0 l a cap N0 s j false v w)(hc:tk.Lies w0.heap.size w0 a l)(hl:l.length<=6000)(hl3:l.length<=3000)(L:Int)(hC:L=9\/L=10)(h99:∀m,¬kd l m=99)(hN0:N0.length+l.length<=200000)(hcat:L=8->∀t m,begins (kd l m)=true->pe.step E l (kd l m) (cp 8 pi pg) t m=over2 12 99 t (E (cp 9 pi pg) m))(RX:R)(hX:∀(v:Value) (w:World),Sq w0 l a cap N0 s j false v w->Calls Tryz.prog 63 #[.pointer (some ⟨w0.heap.size,0,none⟩),.agg #[.int .i64 (L+1),.bool false,.bool pi,.bool pg,.bool false]] w (Rq w0 l a cap N0 s j v w RX))(oX:Ok M l j RX)(sX:∀lv tg t m,RX= .ok lv tg t m->goes (kd l m) lv tg (cp (L+1) pi pg)=false/\L+1<=lv)(hE:CallS w0 l a cap N0 s E (j+1))(oE:∀p i,i<=l.length->Ok M l i (E p i)):
  Calls Tryz.prog 113 #[.pointer (some ⟨w0.heap.size,0,none⟩),.agg #[.int .i64 pl,.bool pd,.bool pi,.bool pg,.bool psg],.int .i64 L,.int .i64 3000] w (Rq w0 l a cap N0 s j v w (chainR E l L pi pg RX)):=by
 have HC:=hid hc
 have HL:=hid (show l.length<=100000 by omega)
 have b3:=hid hl
 have hL:binL L:=by unfold binL;omega
 have HX:=hid hX
 have OX:=hid oX
 have HE:=hid hE
 have OE:=hid oE
 have HAT:=hid (ok_at oX)
 have aO:=hid hl3
 have HBL:=hid hL
 have db:=hid h99
 have aR:=hid hC
 have SX:=hid sX
 have di:=hid hN0
 have dt:=hid hcat
 obtain⟨W,hW⟩:∃W,W=(w.alloc (.cells #[.int .i64 pl,.bool pd,.bool pi,.bool pg,.bool psg] 44)).alloc (.cells #[.slice none 0 0,.bool false] 95):=⟨_,rfl⟩
 have hB:Below w.heap.size w W:=by rw[hW];exact((Below.refl _ _).alloc (Nat.le_refl _) _).alloc (by simp) _
 have P0:=hid (show Mq w0.heap.size w.heap.size #[.int .i64 pl,.bool pd,.bool pi,.bool pg,.bool psg] 44 v W from Mq.of hst (by rw[hW];exact(Bk.new _ _ _).alloc _) (Nat.le_refl _))
 have R0:=hid (show Mq w0.heap.size (w.heap.size+1) #[.slice none 0 0,.bool false] 95 v W from Mq.of hst (by rw[hW];have:=Bk.new (w.alloc (.cells #[.int .i64 pl,.bool pd,.bool pi,.bool pg,.bool psg] 44)) #[.slice none 0 0,.bool false] 95;simpa using this) (Nat.le_succ _))
 have S0:=hid (hst.keep hB)
 have G0:=hid (show Gr (X0 w0.heap.size) v v w W from Gr.quiet hB)
 have HLT:=hid hst.lt
 have HBS:=hid hB.size
 have HJN:=hid hst.jn
 have HWS:=hid (show W.heap.size=w.heap.size+2 by rw[hW];simp)
 clear hB hst
 have hr:3<=L/\L<=10:=by unfold binL at hL;omega
 have HLR:=hid hr
 have dk:=hr.1
 have dh:=hr.2
 have hsd:∀op,opLevel op=L->(ps.sdS (opLevel op)).1=(ps.sdS L).1/\(ps.sdS (opLevel op)).2=rgt L:=fun op h=>⟨by rw[h],by rw[h];exact rgt_sides hL⟩
 have HSD:=hid hsd
 obtain⟨S1,bM⟩:∃S1,(ps.sdS L).1=S1:=⟨_,rfl⟩
 rw[bM]at HSD
 obtain⟨S2,ar⟩:∃S2,rgt L=S2:=⟨_,rfl⟩
 have cy:=hid ar
 rw[ar]at HSD
 clear hX oX hE oE hc hl hl3 hL h99 hN0 hcat sX hr hsd bM ar hC
 obtain⟨c1,c2,c3,c4⟩:=S0.c
 have m5:=P0.bk.c5
 have bO:=R0.bk.c2
 have ba:=R0.bk.f
 rw[hW]at c1 c2 c3 c4 m5 bO ba
 go_enter Tryz.func113,Tryz.ntmps113
 go_wp2_with fail
 rw[<-hW]
 clear c1 c2 c3 c4 m5 bO ba hW
 refine(any_level L _ HBL.out).mono ?_
 rintro e dr ⟨⟨op,rfl,hop⟩,ao⟩
 have aG:=hid (S0.keep ao)
 have a9:=hid (P0.keep ao)
 have a7:=hid (R0.keep ao)
 have c8:=hid (G0.trans (Gr.quiet ao))
 clear ao
 have HOP:=hid hop
 clear hop
 have dg:=aG.c
 have de:=a9.bk.c5
 have cz:=a7.bk.c2
 go_wp2_with fail
 clear dg de cz
 refine(ps.spec_sides op _).mono ?_
 rw[(HSD.out op HOP.out).1,(HSD.out op HOP.out).2]
 rintro e ws ⟨rfl,rfl⟩
 have cb:=aG.c
 have cn:=a9.bk.c5
 have ca:=a7.bk.c2
 go_wp2_with fail
 clear cb cn ca
 refine(part_any _ _ _ _ _ _ _).mono ?_
 rintro e df ⟨rfl,aw⟩
 have b8:=hid (aG.keep aw)
 have bN:=hid (a9.keep aw)
 have aL:=hid (a7.keep aw)
 have cX:=hid (c8.trans (Gr.quiet aw))
 clear aw
 have cO:=b8.c
 have cl:=bN.bk.c5
 have cA:=aL.bk.c2
 go_wp2_with fail
 clear cO cl cA
 refine(HX.out v df b8.out).mono ?_
 rintro e C ⟨T,aP,aH,bp,rfl,s9,a4,t9,bj⟩
 have bo:=hid s9
 have bR:=hid (bN.go a4)
 have aY:=hid (aL.go a4)
 have cF:=hid (cX.trans a4)
 have ct:=hid t9
 have bY:=hid bj
 obtain⟨aD,aK,rfl,cS⟩:=t9.lies
 clear s9 t9 a4 bj cS
 have HBX:=hid (show w.heap.size+1<_ from aL.bk.lt)
 have dp:=hid (show w.heap.size<C.heap.size from bR.bk.lt)
 have cW:=hid (show(w.heap.size+1)<C.heap.size from aY.bk.lt)
 obtain⟨a0,ad⟩:∃W,W=C.alloc (.cells #[.slice aD aP.length aK,.bool aH] 95):=⟨_,rfl⟩
 have ah:Below C.heap.size C a0:=by rw[ad];exact(Below.refl _ _).alloc (Nat.le_refl _) _
 have aF:=hid (show Mq w0.heap.size C.heap.size #[.slice aD aP.length aK,.bool aH] 95 bp a0 from Mq.of bo.out (by rw[ad];exact Bk.new _ _ _) (Nat.le_refl _))
 have dj:=hid (show a0.heap.size=C.heap.size+1 by rw[ad];simp)
 have aI:=hid (bo.keep ah)
 have aM:=hid (bR.keep ah)
 have aB:=hid (aY.keep ah)
 have bC:=hid (ct.out.keep ah)
 have bL:=hid (cF.trans (Gr.quiet ah))
 clear ah
 obtain⟨T,hT⟩:∃T,T=chainR E l L pi pg RX:=⟨_,rfl⟩
 have HT:=hid hT
 rw[<-hT]
 have HREL:=hid (show RelCh M w0 l a cap N0 s j E L pl pd pi pg psg 3000 T v w (C.heap.size) (.int .i64 ((0:Nat):Int)) a0 from⟨0,atQ RX,bdQ RX,bp,aD,aK,aP,aH,_,rfl,Nat.zero_le _,aI.out,bL.out,aM.out,aB.out,aF.out,bC.out,HBX.out,by
   rw[hT]
   have hq:=bY.out
   have ho:=OX.out
   have hs:=SX.out
   clear hT
   cases RX with
   |bad m=>exact .inl ⟨rfl,rfl,hq⟩
   |ok lv tg t m=>exact .inr ⟨rfl,lv,tg,t,l.length+1,hq,ho,rfl,by omega,(hs _ _ _ _ rfl).1,.inl ⟨rfl,(hs _ _ _ _ rfl).2⟩,ho.1⟩⟩)
 have HGX:=hid (show w.heap.size+1<C.heap.size from cW.out)
 have bm:=aI.c
 have bK:=aM.bk.c5
 have bQ:=aB.bk.c2
 have bE:=aF.bk.c2
 rw[ad]at bm bK bQ bE
 clear hT
 go_wp2
 rw[<-ad]
 clear bm bK bQ bE ad
 obtain⟨gX,hgX⟩:∃gX,gX=C.heap.size:=⟨_,rfl⟩
 rw[<-hgX]at HREL HGX|-
 clear hgX
 clear aM aB aF bC aI bL bY
 go_loopw [12] (fun n wr=>RelCh M w0 l a cap N0 s j E L pl pd pi pg psg 3000 T v w gX n wr) (fun n _=>3001-(intOf n).toNat)
 case atStart=>exact HREL.out
 case round=>
  obtain⟨K,m,bd,vr,aT,cT,tt,hh,B,rfl,hK,hs,hg,hP,hR,hXB,hT,hBB,hway⟩:=hrel
  have Sr:=hid hs
  have Gr':=hid hg
  have Pr:=hid hP
  have Rr:=hid hR
  have XBr:=hid hXB
  have Xr:=hid hT
  have HBB:=hid hBB
  clear hs hg hP hR hXB hT hBB
  have HIS:=hid (fun W2 (h2:Sq w0 l a cap N0 s m bd vr W2)=>is_any L ⟨pl,pd,pi,pg,psg⟩ W2 h2 HC.out HL.out HBL.out)
  rcases hway with ⟨rfl,hTT,hwk⟩|⟨rfl,lv,tg,t',gf,hgt,hok,hTT,hgf,hst,hlv,hjm⟩
  ·
   have HTT:=hid (HT.symm.trans hTT)
   have HWK:=hid hwk
   clear hTT hwk
   by_cases aE:K<3000
   case pos=>
    have bF:(K:Int)<3000:=by omega
    have Z:=Sr.c
    have V:=Pr.bk.c5
    have aa:=Rr.bk.c2
    have Q:=Rr.bk.f
    have ac:=XBr.bk.c2
    go_wp2_with fail
    clear Z V aa Q ac
    refine(HIS.out _ Sr.out).mono ?_
    rintro e bx ⟨rfl,o⟩
    have G:=hid (Sr.keep o)
    have ai:=hid (Pr.keep o)
    have A:=hid (Rr.keep o)
    have ae:=hid (XBr.keep o)
    have an:=hid (Xr.keep o)
    have ay:=hid (Gr'.trans (Gr.quiet o))
    clear o
    have au:=G.c
    have ak:=ai.bk.c5
    have ap:=A.bk.c2
    have ax:=A.bk.f
    have aq:=ae.bk.c2
    go_wp2
    clear au ak ap ax aq
    obtain⟨a6,aJ⟩:=(A.bk.put2 (.slice aT tt.length cT) (.bool hh)).c2
    exact bodyPost_ret (v:= .agg #[.slice aT tt.length cT,.bool hh]) (by simp[results,Tryz.results113,go_sem,a6,aJ]) rfl (by rw[HTT.out];exact rq_end HLT.out (show Sq w0 l a cap N0 s m true _ _ from G.out) ay.out A.out an.out (by exact Nat.le_succ _) (by exact HBB.out) (HWK.out))
   case neg=>
    have bF:¬(K:Int)<3000:=by omega
    clear aE
    have Z:=Sr.c
    have V:=Pr.bk.c5
    have aa:=Rr.bk.c2
    have Q:=Rr.bk.f
    have ac:=XBr.bk.c2
    go_wp2
    clear Z V aa Q ac
    obtain⟨ck,c6⟩:=(Rr.bk.put2 (.slice aT tt.length cT) (.bool hh)).c2
    exact bodyPost_ret (v:= .agg #[.slice aT tt.length cT,.bool hh]) (by simp[results,Tryz.results113,go_sem,ck,c6]) rfl (by rw[HTT.out];exact rq_end HLT.out (show Sq w0 l a cap N0 s m true _ _ from Sr.out) Gr'.out Rr.out Xr.out (by exact Nat.le_succ _) (by exact HBB.out) (HWK.out))
  ·
   have co:=hok.2.1
   have HGT:=hid hgt
   have HOK:=hid hok
   have HJM:=hid hjm
   have HGF:=hid hgf
   have HTE:=hid hTT
   have aE:K<3000:=by have:=aO.out;omega
   have bF:(K:Int)<3000:=by omega
   have hiso:=is_op HBL.out (db.out m) (by rcases hlv with ⟨-,h⟩|⟨-,h,-⟩;exact .inl h;exact .inr ⟨h,by have:=aR.out;omega⟩) hst
   clear hlv hst co aE
   obtain⟨c,hcc⟩:∃c,kd l m=c:=⟨_,rfl⟩
   have HCC:=hid hcc
   rw[hcc]at HIS hiso
   by_cases hop:isOp L pg c=true
   case neg=>
    have hop':isOp L pg c=false:=by simpa using hop
    rw[hop']at HIS hiso
    have HTT:=hid (HT.symm.trans (hTT.trans (go_stop (by rw[hcc];exact hiso) (by omega))))
    clear hop hop' hiso hgt hok hjm hgf hTT hcc
    have Z:=Sr.c
    have V:=Pr.bk.c5
    have aa:=Rr.bk.c2
    have Q:=Rr.bk.f
    have ac:=XBr.bk.c2
    go_wp2_with fail
    clear Z V aa Q ac
    refine(HIS.out _ Sr.out).mono ?_
    rintro e bx ⟨rfl,o⟩
    have G:=hid (Sr.keep o)
    have ai:=hid (Pr.keep o)
    have A:=hid (Rr.keep o)
    have ae:=hid (XBr.keep o)
    have an:=hid (Xr.keep o)
    have ay:=hid (Gr'.trans (Gr.quiet o))
    clear o
    have au:=G.c
    have ak:=ai.bk.c5
    have ap:=A.bk.c2
    have ax:=A.bk.f
    have aq:=ae.bk.c2
    go_wp2
    clear au ak ap ax aq
    obtain⟨a6,aJ⟩:=(A.bk.put2 (.slice aT tt.length cT) (.bool hh)).c2
    exact bodyPost_ret (v:= .agg #[.slice aT tt.length cT,.bool hh]) (by simp[results,Tryz.results113,go_sem,a6,aJ]) rfl (by rw[HTT.out];exact rq_end HLT.out (show Sq w0 l a cap N0 s m false _ _ from G.out) ay.out A.out an.out (by exact Nat.le_succ _) (by exact HBB.out) (HGT.out))
   case pos=>
    have HOP:=hid hop
    rw[hop]at HIS hiso
    have HGO:=hid (show goes (kd l m) lv tg (cp L pi pg)=true by rw[hcc];exact hiso)
    have HJL:=hid (show m<=l.length from hok.2.1)
    clear hop hiso hgt hok hjm hgf hTT
    have h8:¬L=8:=by have:=aR.out;omega
    obtain⟨hk_0,hk_2,hk_l⟩:=op_kind HBL.out h8 HOP.out
    have HKL:=hid hk_l
    have HBH:=hid (behind_op (l:=l) (m:=m) HBL.out h8 HOP.out)
    have HML:=hid (kd_lt (l:=l) (i:=m) (by rw[hcc];exact hk_0))
    have HNX:=hid (show¬kd l m=2 by rw[hcc];exact hk_2)
    have q8:(L==8)=false:=by rw[beq_eq_false_iff_ne];exact h8
    have HK:=hid (fun W2 (h2:Sq w0 l a cap N0 s m false vr W2)=>kind_any W2 h2 HC.out HL.out)
    rw[hcc]at HK
    have cB:=hid (show pe.step E l (kd l m) (cp L pi pg) t' m=over2 12 c t' (E (cp (rgt L) pi pg) (behind l c m)) by rw[hcc];exact step_op (by have:=HLR.out;omega) h8 HOP.out)
    have hmb:m<=3000:=by have:=HJL.out;have:=aO.out;omega
    clear hk_0 hk_2 hk_l hcc
    have HRG:=hid (rgt_range HBL.out)
    have ar:=cy.out
    subst ar
    have bg:¬(L=3\/L=4):=by have:=aR.out;omega
    have c9:=hid (show behind l c m=(m+1) by rw[HBH.out];exact if_neg bg)
    have a5:=hid (show m<(m+1)/\(m+1)<=l.length by have:=HML.out;skip;omega)
    obtain⟨RY,hRY⟩:∃R,E (cp (rgt L) pi pg) (m+1)=R:=⟨_,rfl⟩
    have HRY:=hid hRY
    have ORY:=hid (show Ok M l (m+1) RY by rw[<-hRY];exact OE.out _ _ a5.out.2)
    have HSTEP:=hid (show pe.step E l (kd l m) (cp L pi pg) t' m=over2 12 c t' RY by rw[cB.out,c9.out,hRY])
    clear hRY
    have q3:(L==3)=false:=by rw[beq_eq_false_iff_ne];omega
    have q4:(L==4)=false:=by rw[beq_eq_false_iff_ne];omega
    clear bg
    have Z:=Sr.c
    have V:=Pr.bk.c5
    have aa:=Rr.bk.c2
    have Q:=Rr.bk.f
    have ac:=XBr.bk.c2
    go_wp2_with fail
    clear Z V aa Q ac
    refine(HIS.out _ Sr.out).mono ?_
    rintro e bx ⟨rfl,o⟩
    have G:=hid (Sr.keep o)
    have ai:=hid (Pr.keep o)
    have A:=hid (Rr.keep o)
    have ae:=hid (XBr.keep o)
    have an:=hid (Xr.keep o)
    have ay:=hid (Gr'.trans (Gr.quiet o))
    clear o
    have au:=G.c
    have ak:=ai.bk.c5
    have ap:=A.bk.c2
    have ax:=A.bk.f
    have aq:=ae.bk.c2
    go_wp2_with fail
    clear au ak ap ax aq
    refine(HK.out _ G.out).mono ?_
    rintro e bb ⟨rfl,P⟩
    have aN:=hid (G.keep P)
    have bn:=hid (ai.keep P)
    have aS:=hid (A.keep P)
    have b4:=hid (ae.keep P)
    have cx:=hid (an.keep P)
    have cC:=hid (ay.trans (Gr.quiet P))
    clear P
    have bZ:=aN.c
    have cG:=bn.bk.c5
    have ch:=aS.bk.c2
    have dc:=b4.bk.c2
    have cK:=aN.f
    obtain⟨bJ,al⟩:∃W,W=bb.setCell ⟨w0.heap.size,1,none⟩ (.int .i64 ((m:Int)+1)):=⟨_,rfl⟩
    have bU:=hid (show Sq w0 l a cap N0 s (m+1) false vr bJ by rw[al];exact aN.next HML.out HNX.out)
    have af:Gr (X0 w0.heap.size) vr vr bb bJ:=by rw[al];exact Gr.box rfl 1 _
    have b7:=hid (bn.go af)
    have bt:=hid (aS.go af)
    have bs:=hid (b4.go af)
    have cc:=hid (cx.go af)
    have cd:=hid (cC.trans af)
    clear af
    have aX:=bU.c
    have bV:=b7.bk.c5
    have b5:=bt.bk.c2
    have aV:=bs.bk.c2
    rw[al]at aX bV b5 aV
    go_wp2_with fail
    rw[<-al]
    clear bZ cG ch dc cK aX bV b5 aV al
    refine(part_any _ _ _ _ _ _ _).mono ?_
    rintro e c0 ⟨rfl,U⟩
    have br:=hid (bU.keep U)
    have bw:=hid (b7.keep U)
    have b2:=hid (bt.keep U)
    have aA:=hid (bs.keep U)
    have cV:=hid (cc.keep U)
    have cU:=hid (cd.trans (Gr.quiet U))
    clear U
    have cL:=br.c
    have cM:=bw.bk.c5
    have cm:=b2.bk.c2
    have c7:=aA.bk.c2
    have cr:=aA.bk.f
    go_wp2_with fail
    clear cL cM cm c7 cr
    refine(show Calls _ _ _ _ (Rq w0 l a cap N0 s (m+1) vr c0 RY) by rw[<-HRY.out];exact HE.out _ pi pg false (m+1) _ _ (by have:=HRG.out;omega) (by have:=HRG.out;omega) (by have:=a5.out;have:=HJM.out;omega) br.out).mono ?_
    rintro e O ⟨T,y,bG,az,rfl,s9,ag,t9,bH⟩
    have aW:=hid s9
    have bq:=hid (bw.go ag)
    have bS:=hid (b2.go ag)
    have bW:=hid (aA.go ag)
    have cR:=hid (cV.go ag)
    have cq:=hid (cU.trans ag)
    have cw:=hid t9
    have bl:=hid bH
    obtain⟨a3,a1,rfl,cE⟩:=t9.lies
    clear s9 t9 ag bH cE
    have HWX:=hid (gt_wk1 HGT.out HOK.out)
    have HWY:=hid (gt_wk bl.out ORY.out)
    have HOY:=hid (ok_at ORY.out)
    have du:=hid (show w.heap.size<O.heap.size from bq.bk.lt)
    have dl:=hid (show(w.heap.size+1)<O.heap.size from bS.bk.lt)
    have ds:=hid (show gX<O.heap.size from bW.bk.lt)
    obtain⟨ab,aj⟩:∃W,W=O.alloc (.cells #[.slice a3 y.length a1,.bool bG] 95):=⟨_,rfl⟩
    have N:Below O.heap.size O ab:=by rw[aj];exact(Below.refl _ _).alloc (Nat.le_refl _) _
    have be:=hid (show Mq w0.heap.size O.heap.size #[.slice a3 y.length a1,.bool bG] 95 az ab from Mq.of aW.out (by rw[aj];exact Bk.new _ _ _) (Nat.le_refl _))
    have cj:=hid (show ab.heap.size=O.heap.size+1 by rw[aj];simp)
    have aQ:=hid (aW.keep N)
    have aZ:=hid (bq.keep N)
    have aU:=hid (bS.keep N)
    have a2:=hid (bW.keep N)
    have bD:=hid (cR.keep N)
    have bX:=hid (cw.out.keep N)
    have cI:=hid (cq.trans (Gr.quiet N))
    clear N
    have bf:=aQ.c
    have bT:=aZ.bk.c5
    have bu:=aU.bk.c2
    have bv:=a2.bk.c2
    have bi:=a2.bk.f
    have b9:=be.bk.c2
    rw[aj]at bf bT bu bv bi b9
    go_wp2_with fail
    rw[<-aj]
    clear bf bT bu bv bi b9 aj
    have b6:=bD.lies'
    have bc:=bX.lies'
    refine(over2_any cj.out 12 c ⟨#[]⟩ tt y b6 bc (wk_mono HWX.out (by have:=b3.out;have:=HJL.out;omega)) (wk_mono HWY.out (by have:=b3.out;have:=HOY.out;omega))).mono ?_
    rintro e aC ⟨T,z,r,rfl,hz,hp,bA,hr⟩
    have u2560:=Tq.of (aQ.alloc (.cells #[.slice aT tt.length cT,.slice a3 y.length a1] 26)) hp hr
    rw[hz]at u2560
    have dd:=hid (show(ab.alloc (.cells #[.slice aT tt.length cT,.slice a3 y.length a1] 26)).heap.size=ab.heap.size+1 by simp)
    rw[dd.out]at u2560
    have cQ:=hid u2560
    have H:Below ab.heap.size ab aC:=((Below.refl _ _).alloc (Nat.le_refl _) _).trans (bA.mono (by simp))
    have bI:=hid (aQ.keep H)
    have b1:=hid (aZ.keep H)
    have bB:=hid (aU.keep H)
    have am:=hid (a2.keep H)
    have cZ:=hid (be.keep H)
    have dq:=hid (bD.keep H)
    have dm:=hid (bX.keep H)
    have ci:=hid (cI.trans (Gr.quiet H))
    obtain⟨D,F,rfl,-⟩:=u2560.lies
    clear u2560 hz hp hr bA H b6 bc
    have HXL:=hid (show gX<_ from a2.bk.lt)
    have HRL:=hid (show w.heap.size+1<_ from Nat.lt_trans HGX.out HXL.out)
    have cg:=bI.c
    have cf:=b1.bk.c5
    have cH:=bB.bk.c2
    have cJ:=am.bk.c2
    have cD:=am.bk.f
    have da:=cZ.bk.c2
    go_wp2
    clear cg cf cH cJ cD da
    go_roundw
    case rel=>
     obtain⟨a8,J⟩:∃W,W=((aC.setCell ⟨gX,0,none⟩ (.slice D (makeT (nd0 12 c ⟨#[]⟩) [tt,y]).length F)).setCell ⟨gX,1,none⟩ (.bool false)):=⟨_,rfl⟩
     have ce:=hid (by rw[J];exact((bI.out).mset am.out 0 _).mset (am.set 0 (.slice D (makeT (nd0 12 c ⟨#[]⟩) [tt,y]).length F)) 1 _:Sq w0 l a cap N0 s (atQ RY) (bdQ RY) az a8)
     have bz:=hid ((b1.oth (k:=gX) (by have:=HGX.out;omega) 0 (.slice D (makeT (nd0 12 c ⟨#[]⟩) [tt,y]).length F)).oth (k:=gX) (by have:=HGX.out;omega) 1 (.bool false))
     rw[<-J]at bz
     have bh:=hid ((bB.oth (k:=gX) (by have:=HGX.out;omega) 0 (.slice D (makeT (nd0 12 c ⟨#[]⟩) [tt,y]).length F)).oth (k:=gX) (by have:=HGX.out;omega) 1 (.bool false))
     rw[<-J]at bh
     have cY:=hid (by rw[J];exact((am.set 0 (.slice D (makeT (nd0 12 c ⟨#[]⟩) [tt,y]).length F)).set 1 (.bool false)):Mq w0.heap.size gX #[.slice D (makeT (nd0 12 c ⟨#[]⟩) [tt,y]).length F,.bool false] 95 az a8)
     have bP:=hid ((cQ.out.low (g:=gX) (Nat.lt_succ_of_lt HXL.out) 0 (.slice D (makeT (nd0 12 c ⟨#[]⟩) [tt,y]).length F)).low (g:=gX) (Nat.lt_succ_of_lt HXL.out) 1 (.bool false))
     rw[<-J]at bP
     have b0:=hid ((ci.set (g:=gX) (.inr (by have:=HGX.out;omega)) 0 (.slice D (makeT (nd0 12 c ⟨#[]⟩) [tt,y]).length F)).set (g:=gX) (.inr (by have:=HGX.out;omega)) 1 (.bool false))
     rw[<-J]at b0
     have dn:=hid (show a8.heap.size=aC.heap.size by rw[J];simp)
     rw[<-J]
     exact⟨K+1,atQ RY,bdQ RY,az,D,F,_,false,_,by go_num,by omega,ce.out,b0.out,bz.out,bh.out,cY.out,bP.out,Nat.lt_succ_of_lt HRL.out,way_next HBL.out HKL.out HGT.out HOK.out HTE.out HGF.out HGO.out HSTEP.out (Nat.le_of_lt a5.out.1) bl.out ORY.out HJM.out (by have:=a5.out;omega) aO.out⟩
    case measure=>first|(simp[intOf];done)|(simp[intOf];omega)
end
end Go.Proofs.YtebjmdpkobhcbaaGreatDoor.qs
