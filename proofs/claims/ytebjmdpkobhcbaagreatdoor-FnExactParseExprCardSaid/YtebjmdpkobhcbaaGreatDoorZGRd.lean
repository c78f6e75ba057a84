/- A part of the proof; no condition of its own. -/
import Derived.Test.YtebjmdpkobhcbaaGreatDoorZRa
namespace Go.Proofs.YtebjmdpkobhcbaaGreatDoor.qs
open Lib (hid)
open Go.ChangeShapes Go.WideShapes Go.ChangeAt Go.RowKit
open tk (Tk)
open nd (Nd PT KidV makeT)
open ps (Ps posOk)
open pe
open rt (isLval)
open operand (begins)
open lv (opLevel levelOf has)
open pr (Bk Gr X0 below_drewN eq_facts ne_facts fld_k fld_s)
set_option linter.unusedVariables false
set_option linter.unusedSimpArgs false
set_option maxRecDepth 20000
section
variable {w0:World} {l:List Tk} {a:Option Addr} {cap:Nat} {N0:List Tk} {s j:Nat} {v:Value} {E:Ps→Nat→R} {M:Nat}
set_option maxHeartbeats 12800000 in
theorem chain_lines(pl:Int)(pd pi pg psg:Bool)(w:World)(hst:Sq w0 l a cap N0 s j false v w)(hc:tk.Lies w0.heap.size w0 a l)(hl:l.length≤6000)(hl3:l.length≤3000)(L:Int)(hC:L=3∨L=4)(h99:∀m,¬kd l m=99)(hN0:N0.length+l.length≤200000)(hcat:L=8→∀t m,begins (kd l m)=true→pe.step E l (kd l m) (cp 8 pi pg) t m=over2 12 99 t (E (cp 9 pi pg) m))(RX:R)(hX:∀(v:Value) (w:World),Sq w0 l a cap N0 s j false v w→Calls Tryz.prog 63 #[.pointer (some ⟨w0.heap.size,0,none⟩),.agg #[.int .i64 (L+1),.bool false,.bool pi,.bool pg,.bool false]] w (Rq w0 l a cap N0 s j v w RX))(oX:Ok M l j RX)(sX:∀lv tg t m,RX= .ok lv tg t m→goes (kd l m) lv tg (cp (L+1) pi pg)=false∧L+1≤lv)(hE:CallS w0 l a cap N0 s E (j+1))(oE:∀p i,i≤l.length→Ok M l i (E p i)):
  Calls Tryz.prog 113 #[.pointer (some ⟨w0.heap.size,0,none⟩),.agg #[.int .i64 pl,.bool pd,.bool pi,.bool pg,.bool psg],.int .i64 L,.int .i64 3000] w (Rq w0 l a cap N0 s j v w (chainR E l L pi pg RX)):=by
 have HC:=hid hc
 have HL:=hid (show l.length≤100000 by omega)
 have b7:=hid hl
 have hL:binL L:=by unfold binL;omega
 have HX:=hid hX
 have OX:=hid oX
 have HE:=hid hE
 have OE:=hid oE
 have HAT:=hid (ok_at oX)
 have b8:=hid hl3
 have HBL:=hid hL
 have dy:=hid h99
 have ci:=hid hC
 have SX:=hid sX
 have cZ:=hid hN0
 have dA:=hid hcat
 obtain⟨W,hW⟩:∃W,W=(w.alloc (.cells #[.int .i64 pl,.bool pd,.bool pi,.bool pg,.bool psg] 44)).alloc (.cells #[.slice none 0 0,.bool false] 95):=⟨_,rfl⟩
 have hB:Below w.heap.size w W:=by rw[hW];exact((Below.refl _ _).alloc (Nat.le_refl _) _).alloc (by simp) _
 have P0:=hid (show Mq w0.heap.size w.heap.size #[.int .i64 pl,.bool pd,.bool pi,.bool pg,.bool psg] 44 v W from Mq.of hst (by rw[hW];exact(Bk.new _ _ _).alloc _) (Nat.le_refl _))
 have R0:=hid (show Mq w0.heap.size (w.heap.size+1) #[.slice none 0 0,.bool false] 95 v W from Mq.of hst (by rw[hW];have:=Bk.new (w.alloc (.cells #[.int .i64 pl,.bool pd,.bool pi,.bool pg,.bool psg] 44)) #[.slice none 0 0,.bool false] 95;simpa using this) (Nat.le_succ _))
 have S0:=hid (hst.keep hB)
 have G0:=hid (show Gr (X0 w0.heap.size) v v w W from Gr.quiet hB)
 have HLT:=hid hst.lt
 have HBS:=hid hB.size
 have HJN:=hid hst.jn
 have HWS:=hid (show W.heap.size=w.heap.size+2 by rw[hW];simp)
 clear hB hst
 have hr:3≤L∧L≤10:=by unfold binL at hL;omega
 have HLR:=hid hr
 have d9:=hr.1
 have d8:=hr.2
 have hsd:∀op,opLevel op=L→(ps.sdS (opLevel op)).1=(ps.sdS L).1∧(ps.sdS (opLevel op)).2=rgt L:=fun op h=>⟨by rw[h],by rw[h];exact rgt_sides hL⟩
 have HSD:=hid hsd
 obtain⟨S1,cY⟩:∃S1,(ps.sdS L).1=S1:=⟨_,rfl⟩
 rw[cY]at HSD
 obtain⟨S2,aJ⟩:∃S2,rgt L=S2:=⟨_,rfl⟩
 have dm:=hid aJ
 rw[aJ]at HSD
 clear hX oX hE oE hc hl hl3 hL h99 hN0 hcat sX hr hsd cY aJ hC
 obtain⟨c1,c2,c3,c4⟩:=S0.c
 have m5:=P0.bk.c5
 have cS:=R0.bk.c2
 have cV:=R0.bk.f
 rw[hW]at c1 c2 c3 c4 m5 cS cV
 go_enter Tryz.func113,Tryz.ntmps113
 go_wp2_with fail
 rw[←hW]
 clear c1 c2 c3 c4 m5 cS cV hW
 refine(any_level L _ HBL.out).mono ?_
 rintro e d6 ⟨⟨op,rfl,hop⟩,bw⟩
 have bF:=hid (S0.keep bw)
 have ch:=hid (P0.keep bw)
 have bE:=hid (R0.keep bw)
 have d1:=hid (G0.trans (Gr.quiet bw))
 clear bw
 have HOP:=hid hop
 clear hop
 have d0:=bF.c
 have d4:=ch.bk.c5
 have dv:=bE.bk.c2
 go_wp2_with fail
 clear d0 d4 dv
 refine(ps.spec_sides op _).mono ?_
 rw[(HSD.out op HOP.out).1,(HSD.out op HOP.out).2]
 rintro e ws ⟨rfl,rfl⟩
 have dn:=bF.c
 have dw:=ch.bk.c5
 have d5:=bE.bk.c2
 go_wp2_with fail
 clear dn dw d5
 refine(part_any _ _ _ _ _ _ _).mono ?_
 rintro e du ⟨rfl,aE⟩
 have cH:=hid (bF.keep aE)
 have cW:=hid (ch.keep aE)
 have bR:=hid (bE.keep aE)
 have dl:=hid (d1.trans (Gr.quiet aE))
 clear aE
 have dz:=cH.c
 have dq:=cW.bk.c5
 have d3:=bR.bk.c2
 go_wp2_with fail
 clear dz dq d3
 refine(HX.out v du cH.out).mono ?_
 rintro e af ⟨T,cq,c9,cK,rfl,s9,b4,t9,cG⟩
 have cL:=hid s9
 have cR:=hid (cW.go b4)
 have cI:=hid (bR.go b4)
 have dh:=hid (dl.trans b4)
 have d2:=hid t9
 have cF:=hid cG
 obtain⟨bH,cy,rfl,dp⟩:=t9.lies
 clear s9 t9 b4 cG dp
 have HBX:=hid (show w.heap.size+1<_ from bR.bk.lt)
 have d7:=hid (show w.heap.size<af.heap.size from cR.bk.lt)
 have dr:=hid (show(w.heap.size+1)<af.heap.size from cI.bk.lt)
 obtain⟨b6,a8⟩:∃W,W=af.alloc (.cells #[.slice bH cq.length cy,.bool c9] 95):=⟨_,rfl⟩
 have a7:Below af.heap.size af b6:=by rw[a8];exact(Below.refl _ _).alloc (Nat.le_refl _) _
 have cr:=hid (show Mq w0.heap.size af.heap.size #[.slice bH cq.length cy,.bool c9] 95 cK b6 from Mq.of cL.out (by rw[a8];exact Bk.new _ _ _) (Nat.le_refl _))
 have dB:=hid (show b6.heap.size=af.heap.size+1 by rw[a8];simp)
 have bL:=hid (cL.keep a7)
 have bQ:=hid (cR.keep a7)
 have bZ:=hid (cI.keep a7)
 have cU:=hid (d2.out.keep a7)
 have cM:=hid (dh.trans (Gr.quiet a7))
 clear a7
 obtain⟨T,hT⟩:∃T,T=chainR E l L pi pg RX:=⟨_,rfl⟩
 have HT:=hid hT
 rw[←hT]
 have HREL:=hid (show RelCh M w0 l a cap N0 s j E L pl pd pi pg psg 3000 T v w (af.heap.size) (.int .i64 ((0:Nat):Int)) b6 from⟨0,atQ RX,bdQ RX,cK,bH,cy,cq,c9,_,rfl,Nat.zero_le _,bL.out,cM.out,bQ.out,bZ.out,cr.out,cU.out,HBX.out,by
   rw[hT]
   have hq:=cF.out
   have ho:=OX.out
   have hs:=SX.out
   clear hT
   cases RX with
   |bad m=>exact .inl ⟨rfl,rfl,hq⟩
   |ok lv tg t m=>exact .inr ⟨rfl,lv,tg,t,l.length+1,hq,ho,rfl,by omega,(hs _ _ _ _ rfl).1,.inl ⟨rfl,(hs _ _ _ _ rfl).2⟩,ho.1⟩⟩)
 have HGX:=hid (show w.heap.size+1<af.heap.size from dr.out)
 have cQ:=bL.c
 have cJ:=bQ.bk.c5
 have cO:=bZ.bk.c2
 have cX:=cr.bk.c2
 rw[a8]at cQ cJ cO cX
 clear hT
 go_wp2
 rw[←a8]
 clear cQ cJ cO cX a8
 obtain⟨gX,hgX⟩:∃gX,gX=af.heap.size:=⟨_,rfl⟩
 rw[←hgX]at HREL HGX⊢
 clear hgX
 clear bQ bZ cr cU bL cM cF
 go_loopw [12] (fun n wr=>RelCh M w0 l a cap N0 s j E L pl pd pi pg psg 3000 T v w gX n wr) (fun n _=>3001-(intOf n).toNat)
 case atStart=>exact HREL.out
 case round=>
  obtain⟨K,m,bd,vr,aT,cT,tt,hh,B,rfl,hK,hs,hg,hP,hR,hXB,hT,hBB,hway⟩:=hrel
  have Sr:=hid hs
  have Gr':=hid hg
  have Pr:=hid hP
  have Rr:=hid hR
  have XBr:=hid hXB
  have Xr:=hid hT
  have HBB:=hid hBB
  clear hs hg hP hR hXB hT hBB
  have HIS:=hid (fun W2 (h2:Sq w0 l a cap N0 s m bd vr W2)=>is_any L ⟨pl,pd,pi,pg,psg⟩ W2 h2 HC.out HL.out HBL.out)
  rcases hway with ⟨rfl,hTT,hwk⟩|⟨rfl,lv,tg,t',gf,hgt,hok,hTT,hgf,hst,hlv,hjm⟩
  ·
   have HTT:=hid (HT.symm.trans hTT)
   have HWK:=hid hwk
   clear hTT hwk
   by_cases bV:K<3000
   case pos=>
    have da:(K:Int)<3000:=by omega
    have al:=Sr.c
    have an:=Pr.bk.c5
    have ap:=Rr.bk.c2
    have ak:=Rr.bk.f
    have am:=XBr.bk.c2
    go_wp2_with fail
    clear al an ap ak am
    refine(HIS.out _ Sr.out).mono ?_
    rintro e cB ⟨rfl,o⟩
    have ac:=hid (Sr.keep o)
    have aq:=hid (Pr.keep o)
    have F:=hid (Rr.keep o)
    have ah:=hid (XBr.keep o)
    have a0:=hid (Xr.keep o)
    have ax:=hid (Gr'.trans (Gr.quiet o))
    clear o
    have aw:=ac.c
    have a6:=aq.bk.c5
    have a4:=F.bk.c2
    have ay:=F.bk.f
    have a5:=ah.bk.c2
    go_wp2
    clear aw a6 a4 ay a5
    obtain⟨bK,bD⟩:=(F.bk.put2 (.slice aT tt.length cT) (.bool hh)).c2
    exact bodyPost_ret (v:= .agg #[.slice aT tt.length cT,.bool hh]) (by simp[results,Tryz.results113,go_sem,bK,bD]) rfl (by rw[HTT.out];exact rq_end HLT.out (show Sq w0 l a cap N0 s m true _ _ from ac.out) ax.out F.out a0.out (by exact Nat.le_succ _) (by exact HBB.out) (HWK.out))
   case neg=>
    have da:¬(K:Int)<3000:=by omega
    clear bV
    have al:=Sr.c
    have an:=Pr.bk.c5
    have ap:=Rr.bk.c2
    have ak:=Rr.bk.f
    have am:=XBr.bk.c2
    go_wp2
    clear al an ap ak am
    obtain⟨db,dd⟩:=(Rr.bk.put2 (.slice aT tt.length cT) (.bool hh)).c2
    exact bodyPost_ret (v:= .agg #[.slice aT tt.length cT,.bool hh]) (by simp[results,Tryz.results113,go_sem,db,dd]) rfl (by rw[HTT.out];exact rq_end HLT.out (show Sq w0 l a cap N0 s m true _ _ from Sr.out) Gr'.out Rr.out Xr.out (by exact Nat.le_succ _) (by exact HBB.out) (HWK.out))
  ·
   have dc:=hok.2.1
   have HGT:=hid hgt
   have HOK:=hid hok
   have HJM:=hid hjm
   have HGF:=hid hgf
   have HTE:=hid hTT
   have bV:K<3000:=by have:=b8.out;omega
   have da:(K:Int)<3000:=by omega
   have hiso:=is_op HBL.out (dy.out m) (by rcases hlv with ⟨-,h⟩|⟨-,h,-⟩;exact .inl h;exact .inr ⟨h,by have:=ci.out;omega⟩) hst
   clear hlv hst dc bV
   obtain⟨c,hcc⟩:∃c,kd l m=c:=⟨_,rfl⟩
   have HCC:=hid hcc
   rw[hcc]at HIS hiso
   by_cases hop:isOp L pg c=true
   case neg=>
    have hop':isOp L pg c=false:=by simpa using hop
    rw[hop']at HIS hiso
    have HTT:=hid (HT.symm.trans (hTT.trans (go_stop (by rw[hcc];exact hiso) (by omega))))
    clear hop hop' hiso hgt hok hjm hgf hTT hcc
    have al:=Sr.c
    have an:=Pr.bk.c5
    have ap:=Rr.bk.c2
    have ak:=Rr.bk.f
    have am:=XBr.bk.c2
    go_wp2_with fail
    clear al an ap ak am
    refine(HIS.out _ Sr.out).mono ?_
    rintro e cB ⟨rfl,o⟩
    have ac:=hid (Sr.keep o)
    have aq:=hid (Pr.keep o)
    have F:=hid (Rr.keep o)
    have ah:=hid (XBr.keep o)
    have a0:=hid (Xr.keep o)
    have ax:=hid (Gr'.trans (Gr.quiet o))
    clear o
    have aw:=ac.c
    have a6:=aq.bk.c5
    have a4:=F.bk.c2
    have ay:=F.bk.f
    have a5:=ah.bk.c2
    go_wp2
    clear aw a6 a4 ay a5
    obtain⟨bK,bD⟩:=(F.bk.put2 (.slice aT tt.length cT) (.bool hh)).c2
    exact bodyPost_ret (v:= .agg #[.slice aT tt.length cT,.bool hh]) (by simp[results,Tryz.results113,go_sem,bK,bD]) rfl (by rw[HTT.out];exact rq_end HLT.out (show Sq w0 l a cap N0 s m false _ _ from ac.out) ax.out F.out a0.out (by exact Nat.le_succ _) (by exact HBB.out) (HGT.out))
   case pos=>
    have HOP:=hid hop
    rw[hop]at HIS hiso
    have HGO:=hid (show goes (kd l m) lv tg (cp L pi pg)=true by rw[hcc];exact hiso)
    have HJL:=hid (show m≤l.length from hok.2.1)
    clear hop hiso hgt hok hjm hgf hTT
    have h8:¬L=8:=by have:=ci.out;omega
    obtain⟨hk_0,hk_2,hk_l⟩:=op_kind HBL.out h8 HOP.out
    have HKL:=hid hk_l
    have HBH:=hid (behind_op (l:=l) (m:=m) HBL.out h8 HOP.out)
    have HML:=hid (kd_lt (l:=l) (i:=m) (by rw[hcc];exact hk_0))
    have HNX:=hid (show¬kd l m=2 by rw[hcc];exact hk_2)
    have q8:(L==8)=false:=by rw[beq_eq_false_iff_ne];exact h8
    have HK:=hid (fun W2 (h2:Sq w0 l a cap N0 s m false vr W2)=>kind_any W2 h2 HC.out HL.out)
    rw[hcc]at HK
    have dj:=hid (show pe.step E l (kd l m) (cp L pi pg) t' m=over2 12 c t' (E (cp (rgt L) pi pg) (behind l c m)) by rw[hcc];exact step_op (by have:=HLR.out;omega) h8 HOP.out)
    have hmb:m≤3000:=by have:=HJL.out;have:=b8.out;omega
    clear hk_0 hk_2 hk_l hcc
    have HRG:=hid (rgt_range HBL.out)
    have aJ:=dm.out
    subst aJ
    have b5:=ci.out
    have di:=hid (show behind l c m=(sk l (m+1)) by rw[HBH.out];exact if_pos b5)
    have ar:=hid (show m<(sk l (m+1))∧(sk l (m+1))≤l.length by have:=HML.out;have:=sk_le (l:=l) (i:=m+1) (by omega);omega)
    obtain⟨RY,hRY⟩:∃R,E (cp (rgt L) pi pg) (sk l (m+1))=R:=⟨_,rfl⟩
    have HRY:=hid hRY
    have ORY:=hid (show Ok M l (sk l (m+1)) RY by rw[←hRY];exact OE.out _ _ ar.out.2)
    have HSTEP:=hid (show pe.step E l (kd l m) (cp L pi pg) t' m=over2 12 c t' RY by rw[dj.out,di.out,hRY])
    clear hRY
    have dx:(L==3||L==4)=true:=by rcases b5 with h|h<;>simp[h]
    have hq:(L==3)=true∨((L==3)=false∧(L==4)=true):=by rcases b5 with h|h<;>simp[h]
    clear dx
    clear b5
    rcases hq with q3|⟨q3,q4⟩
    ·
     have al:=Sr.c
     have an:=Pr.bk.c5
     have ap:=Rr.bk.c2
     have ak:=Rr.bk.f
     have am:=XBr.bk.c2
     go_wp2_with fail
     clear al an ap ak am
     refine(HIS.out _ Sr.out).mono ?_
     rintro e cB ⟨rfl,o⟩
     have ac:=hid (Sr.keep o)
     have aq:=hid (Pr.keep o)
     have F:=hid (Rr.keep o)
     have ah:=hid (XBr.keep o)
     have a0:=hid (Xr.keep o)
     have ax:=hid (Gr'.trans (Gr.quiet o))
     clear o
     have aw:=ac.c
     have a6:=aq.bk.c5
     have a4:=F.bk.c2
     have ay:=F.bk.f
     have a5:=ah.bk.c2
     go_wp2_with fail
     clear aw a6 a4 ay a5
     refine(HK.out _ ac.out).mono ?_
     rintro e bl ⟨rfl,Q⟩
     have au:=hid (ac.keep Q)
     have bi:=hid (aq.keep Q)
     have bj:=hid (F.keep Q)
     have aX:=hid (ah.keep Q)
     have co:=hid (a0.keep Q)
     have bJ:=hid (ax.trans (Gr.quiet Q))
     clear Q
     have bN:=au.c
     have c6:=bi.bk.c5
     have cf:=bj.bk.c2
     have cj:=aX.bk.c2
     have cl:=au.f
     obtain⟨aK,ad⟩:∃W,W=bl.setCell ⟨w0.heap.size,1,none⟩ (.int .i64 ((m:Int)+1)):=⟨_,rfl⟩
     have a9:=hid (show Sq w0 l a cap N0 s (m+1) false vr aK by rw[ad];exact au.next HML.out HNX.out)
     have Z:Gr (X0 w0.heap.size) vr vr bl aK:=by rw[ad];exact Gr.box rfl 1 _
     have aO:=hid (bi.go Z)
     have bm:=hid (bj.go Z)
     have aF:=hid (aX.go Z)
     have b9:=hid (co.go Z)
     have bA:=hid (bJ.trans Z)
     clear Z
     have aD:=a9.c
     have aI:=aO.bk.c5
     have aY:=bm.bk.c2
     have aP:=aF.bk.c2
     rw[ad]at aD aI aY aP
     go_wp2_with fail
     rw[←ad]
     clear bN c6 cf cj cl aD aI aY aP ad
     refine(lines_any _ a9.out HC.out HL.out cZ.out).mono ?_
     rintro e bU ⟨rfl,aU,bx,ab⟩
     have aC:=hid (show Sq w0 l a cap N0 s (sk l (m+1)) false aU bU from bx)
     have aZ:=hid (aO.go ab)
     have be:=hid (bm.go ab)
     have bp:=hid (aF.go ab)
     have cg:=hid (b9.go ab)
     have ck:=hid (bA.trans ab)
     clear bx ab
     have bB:=aC.c
     have bX:=aZ.bk.c5
     have cw:=be.bk.c2
     have c8:=bp.bk.c2
     go_wp2_with fail
     clear bB bX cw c8
     refine(part_any _ _ _ _ _ _ _).mono ?_
     rintro e cx ⟨rfl,U⟩
     have aB:=hid (aC.keep U)
     have bu:=hid (aZ.keep U)
     have bo:=hid (be.keep U)
     have a2:=hid (bp.keep U)
     have bT:=hid (cg.keep U)
     have bM:=hid (ck.trans (Gr.quiet U))
     clear U
     have c0:=aB.c
     have ca:=bu.bk.c5
     have bP:=bo.bk.c2
     have ce:=a2.bk.c2
     have bO:=a2.bk.f
     go_wp2_with fail
     clear c0 ca bP ce bO
     refine(show Calls _ _ _ _ (Rq w0 l a cap N0 s (sk l (m+1)) aU cx RY) by rw[←HRY.out];exact HE.out _ pi pg false (sk l (m+1)) _ _ (by have:=HRG.out;omega) (by have:=HRG.out;omega) (by have:=ar.out;have:=HJM.out;omega) aB.out).mono ?_
     rintro e J ⟨T,y,bf,aj,rfl,s9,aa,t9,bg⟩
     have aH:=hid s9
     have aA:=hid (bu.go aa)
     have bz:=hid (bo.go aa)
     have aV:=hid (a2.go aa)
     have bW:=hid (bT.go aa)
     have bC:=hid (bM.trans aa)
     have cE:=hid t9
     have b0:=hid bg
     obtain⟨ao,ag,rfl,cD⟩:=t9.lies
     clear s9 t9 aa bg cD
     have HWX:=hid (gt_wk1 HGT.out HOK.out)
     have HWY:=hid (gt_wk b0.out ORY.out)
     have HOY:=hid (ok_at ORY.out)
     have df:=hid (show w.heap.size<J.heap.size from aA.bk.lt)
     have dk:=hid (show(w.heap.size+1)<J.heap.size from bz.bk.lt)
     have de:=hid (show gX<J.heap.size from aV.bk.lt)
     obtain⟨O,V⟩:∃W,W=J.alloc (.cells #[.slice ao y.length ag,.bool bf] 95):=⟨_,rfl⟩
     have N:Below J.heap.size J O:=by rw[V];exact(Below.refl _ _).alloc (Nat.le_refl _) _
     have bh:=hid (show Mq w0.heap.size J.heap.size #[.slice ao y.length ag,.bool bf] 95 aj O from Mq.of aH.out (by rw[V];exact Bk.new _ _ _) (Nat.le_refl _))
     have cA:=hid (show O.heap.size=J.heap.size+1 by rw[V];simp)
     have a3:=hid (aH.keep N)
     have aW:=hid (aA.keep N)
     have b3:=hid (bz.keep N)
     have ai:=hid (aV.keep N)
     have bn:=hid (bW.keep N)
     have ba:=hid (cE.out.keep N)
     have cc:=hid (bC.trans (Gr.quiet N))
     clear N
     have bb:=a3.c
     have aM:=aW.bk.c5
     have bc:=b3.bk.c2
     have aQ:=ai.bk.c2
     have aG:=ai.bk.f
     have b2:=bh.bk.c2
     rw[V]at bb aM bc aQ aG b2
     go_wp2_with fail
     rw[←V]
     clear bb aM bc aQ aG b2 V
     have bs:=bn.lies'
     have aN:=ba.lies'
     refine(over2_any cA.out 12 c ⟨#[]⟩ tt y bs aN (wk_mono HWX.out (by have:=b7.out;have:=HJL.out;omega)) (wk_mono HWY.out (by have:=b7.out;have:=HOY.out;omega))).mono ?_
     rintro e a1 ⟨T,z,r,rfl,hz,hp,aS,hr⟩
     have u2790:=Tq.of (a3.alloc (.cells #[.slice aT tt.length cT,.slice ao y.length ag] 26)) hp hr
     rw[hz]at u2790
     have bI:=hid (show(O.alloc (.cells #[.slice aT tt.length cT,.slice ao y.length ag] 26)).heap.size=O.heap.size+1 by simp)
     rw[bI.out]at u2790
     have cb:=hid u2790
     have A:Below O.heap.size O a1:=((Below.refl _ _).alloc (Nat.le_refl _) _).trans (aS.mono (by simp))
     have bt:=hid (a3.keep A)
     have b1:=hid (aW.keep A)
     have br:=hid (b3.keep A)
     have ae:=hid (ai.keep A)
     have cm:=hid (bh.keep A)
     have dg:=hid (bn.keep A)
     have dt:=hid (ba.keep A)
     have ct:=hid (cc.trans (Gr.quiet A))
     obtain⟨C,D,rfl,-⟩:=u2790.lies
     clear u2790 hz hp hr aS A bs aN
     have HXL:=hid (show gX<_ from ai.bk.lt)
     have HRL:=hid (show w.heap.size+1<_ from Nat.lt_trans HGX.out HXL.out)
     have bS:=bt.c
     have cn:=b1.bk.c5
     have bY:=br.bk.c2
     have cC:=ae.bk.c2
     have cd:=ae.bk.f
     have cz:=cm.bk.c2
     go_wp2
     clear bS cn bY cC cd cz
     go_roundw
     case rel=>
      obtain⟨az,G⟩:∃W,W=((a1.setCell ⟨gX,0,none⟩ (.slice C (makeT (nd0 12 c ⟨#[]⟩) [tt,y]).length D)).setCell ⟨gX,1,none⟩ (.bool false)):=⟨_,rfl⟩
      have bG:=hid (by rw[G];exact((bt.out).mset ae.out 0 _).mset (ae.set 0 (.slice C (makeT (nd0 12 c ⟨#[]⟩) [tt,y]).length D)) 1 _:Sq w0 l a cap N0 s (atQ RY) (bdQ RY) aj az)
      have bv:=hid ((b1.oth (k:=gX) (by have:=HGX.out;omega) 0 (.slice C (makeT (nd0 12 c ⟨#[]⟩) [tt,y]).length D)).oth (k:=gX) (by have:=HGX.out;omega) 1 (.bool false))
      rw[←G]at bv
      have aR:=hid ((br.oth (k:=gX) (by have:=HGX.out;omega) 0 (.slice C (makeT (nd0 12 c ⟨#[]⟩) [tt,y]).length D)).oth (k:=gX) (by have:=HGX.out;omega) 1 (.bool false))
      rw[←G]at aR
      have c7:=hid (by rw[G];exact((ae.set 0 (.slice C (makeT (nd0 12 c ⟨#[]⟩) [tt,y]).length D)).set 1 (.bool false)):Mq w0.heap.size gX #[.slice C (makeT (nd0 12 c ⟨#[]⟩) [tt,y]).length D,.bool false] 95 aj az)
      have bq:=hid ((cb.out.low (g:=gX) (Nat.lt_succ_of_lt HXL.out) 0 (.slice C (makeT (nd0 12 c ⟨#[]⟩) [tt,y]).length D)).low (g:=gX) (Nat.lt_succ_of_lt HXL.out) 1 (.bool false))
      rw[←G]at bq
      have aL:=hid ((ct.set (g:=gX) (.inr (by have:=HGX.out;omega)) 0 (.slice C (makeT (nd0 12 c ⟨#[]⟩) [tt,y]).length D)).set (g:=gX) (.inr (by have:=HGX.out;omega)) 1 (.bool false))
      rw[←G]at aL
      have ds:=hid (show az.heap.size=a1.heap.size by rw[G];simp)
      rw[←G]
      exact⟨K+1,atQ RY,bdQ RY,aj,C,D,_,false,_,by go_num,by omega,bG.out,aL.out,bv.out,aR.out,c7.out,bq.out,Nat.lt_succ_of_lt HRL.out,way_next HBL.out HKL.out HGT.out HOK.out HTE.out HGF.out HGO.out HSTEP.out (Nat.le_of_lt ar.out.1) b0.out ORY.out HJM.out (by have:=ar.out;omega) b8.out⟩
     case measure=>first|(simp[intOf];done)|(simp[intOf];omega)
    ·
     have al:=Sr.c
     have an:=Pr.bk.c5
     have ap:=Rr.bk.c2
     have ak:=Rr.bk.f
     have am:=XBr.bk.c2
     go_wp2_with fail
     clear al an ap ak am
     refine(HIS.out _ Sr.out).mono ?_
     rintro e cB ⟨rfl,o⟩
     have ac:=hid (Sr.keep o)
     have aq:=hid (Pr.keep o)
     have F:=hid (Rr.keep o)
     have ah:=hid (XBr.keep o)
     have a0:=hid (Xr.keep o)
     have ax:=hid (Gr'.trans (Gr.quiet o))
     clear o
     have aw:=ac.c
     have a6:=aq.bk.c5
     have a4:=F.bk.c2
     have ay:=F.bk.f
     have a5:=ah.bk.c2
     go_wp2_with fail
     clear aw a6 a4 ay a5
     refine(HK.out _ ac.out).mono ?_
     rintro e bl ⟨rfl,Q⟩
     have au:=hid (ac.keep Q)
     have bi:=hid (aq.keep Q)
     have bj:=hid (F.keep Q)
     have aX:=hid (ah.keep Q)
     have co:=hid (a0.keep Q)
     have bJ:=hid (ax.trans (Gr.quiet Q))
     clear Q
     have bN:=au.c
     have c6:=bi.bk.c5
     have cf:=bj.bk.c2
     have cj:=aX.bk.c2
     have cl:=au.f
     obtain⟨aK,ad⟩:∃W,W=bl.setCell ⟨w0.heap.size,1,none⟩ (.int .i64 ((m:Int)+1)):=⟨_,rfl⟩
     have a9:=hid (show Sq w0 l a cap N0 s (m+1) false vr aK by rw[ad];exact au.next HML.out HNX.out)
     have Z:Gr (X0 w0.heap.size) vr vr bl aK:=by rw[ad];exact Gr.box rfl 1 _
     have aO:=hid (bi.go Z)
     have bm:=hid (bj.go Z)
     have aF:=hid (aX.go Z)
     have b9:=hid (co.go Z)
     have bA:=hid (bJ.trans Z)
     clear Z
     have aD:=a9.c
     have aI:=aO.bk.c5
     have aY:=bm.bk.c2
     have aP:=aF.bk.c2
     rw[ad]at aD aI aY aP
     go_wp2_with fail
     rw[←ad]
     clear bN c6 cf cj cl aD aI aY aP ad
     refine(lines_any _ a9.out HC.out HL.out cZ.out).mono ?_
     rintro e bU ⟨rfl,aU,bx,ab⟩
     have aC:=hid (show Sq w0 l a cap N0 s (sk l (m+1)) false aU bU from bx)
     have aZ:=hid (aO.go ab)
     have be:=hid (bm.go ab)
     have bp:=hid (aF.go ab)
     have cg:=hid (b9.go ab)
     have ck:=hid (bA.trans ab)
     clear bx ab
     have bB:=aC.c
     have bX:=aZ.bk.c5
     have cw:=be.bk.c2
     have c8:=bp.bk.c2
     go_wp2_with fail
     clear bB bX cw c8
     refine(part_any _ _ _ _ _ _ _).mono ?_
     rintro e cx ⟨rfl,U⟩
     have aB:=hid (aC.keep U)
     have bu:=hid (aZ.keep U)
     have bo:=hid (be.keep U)
     have a2:=hid (bp.keep U)
     have bT:=hid (cg.keep U)
     have bM:=hid (ck.trans (Gr.quiet U))
     clear U
     have c0:=aB.c
     have ca:=bu.bk.c5
     have bP:=bo.bk.c2
     have ce:=a2.bk.c2
     have bO:=a2.bk.f
     go_wp2_with fail
     clear c0 ca bP ce bO
     refine(show Calls _ _ _ _ (Rq w0 l a cap N0 s (sk l (m+1)) aU cx RY) by rw[←HRY.out];exact HE.out _ pi pg false (sk l (m+1)) _ _ (by have:=HRG.out;omega) (by have:=HRG.out;omega) (by have:=ar.out;have:=HJM.out;omega) aB.out).mono ?_
     rintro e J ⟨T,y,bf,aj,rfl,s9,aa,t9,bg⟩
     have aH:=hid s9
     have aA:=hid (bu.go aa)
     have bz:=hid (bo.go aa)
     have aV:=hid (a2.go aa)
     have bW:=hid (bT.go aa)
     have bC:=hid (bM.trans aa)
     have cE:=hid t9
     have b0:=hid bg
     obtain⟨ao,ag,rfl,cD⟩:=t9.lies
     clear s9 t9 aa bg cD
     have HWX:=hid (gt_wk1 HGT.out HOK.out)
     have HWY:=hid (gt_wk b0.out ORY.out)
     have HOY:=hid (ok_at ORY.out)
     have df:=hid (show w.heap.size<J.heap.size from aA.bk.lt)
     have dk:=hid (show(w.heap.size+1)<J.heap.size from bz.bk.lt)
     have de:=hid (show gX<J.heap.size from aV.bk.lt)
     obtain⟨O,V⟩:∃W,W=J.alloc (.cells #[.slice ao y.length ag,.bool bf] 95):=⟨_,rfl⟩
     have N:Below J.heap.size J O:=by rw[V];exact(Below.refl _ _).alloc (Nat.le_refl _) _
     have bh:=hid (show Mq w0.heap.size J.heap.size #[.slice ao y.length ag,.bool bf] 95 aj O from Mq.of aH.out (by rw[V];exact Bk.new _ _ _) (Nat.le_refl _))
     have cA:=hid (show O.heap.size=J.heap.size+1 by rw[V];simp)
     have a3:=hid (aH.keep N)
     have aW:=hid (aA.keep N)
     have b3:=hid (bz.keep N)
     have ai:=hid (aV.keep N)
     have bn:=hid (bW.keep N)
     have ba:=hid (cE.out.keep N)
     have cc:=hid (bC.trans (Gr.quiet N))
     clear N
     have bb:=a3.c
     have aM:=aW.bk.c5
     have bc:=b3.bk.c2
     have aQ:=ai.bk.c2
     have aG:=ai.bk.f
     have b2:=bh.bk.c2
     rw[V]at bb aM bc aQ aG b2
     go_wp2_with fail
     rw[←V]
     clear bb aM bc aQ aG b2 V
     have bs:=bn.lies'
     have aN:=ba.lies'
     refine(over2_any cA.out 12 c ⟨#[]⟩ tt y bs aN (wk_mono HWX.out (by have:=b7.out;have:=HJL.out;omega)) (wk_mono HWY.out (by have:=b7.out;have:=HOY.out;omega))).mono ?_
     rintro e a1 ⟨T,z,r,rfl,hz,hp,aS,hr⟩
     have u2790:=Tq.of (a3.alloc (.cells #[.slice aT tt.length cT,.slice ao y.length ag] 26)) hp hr
     rw[hz]at u2790
     have bI:=hid (show(O.alloc (.cells #[.slice aT tt.length cT,.slice ao y.length ag] 26)).heap.size=O.heap.size+1 by simp)
     rw[bI.out]at u2790
     have cb:=hid u2790
     have A:Below O.heap.size O a1:=((Below.refl _ _).alloc (Nat.le_refl _) _).trans (aS.mono (by simp))
     have bt:=hid (a3.keep A)
     have b1:=hid (aW.keep A)
     have br:=hid (b3.keep A)
     have ae:=hid (ai.keep A)
     have cm:=hid (bh.keep A)
     have dg:=hid (bn.keep A)
     have dt:=hid (ba.keep A)
     have ct:=hid (cc.trans (Gr.quiet A))
     obtain⟨C,D,rfl,-⟩:=u2790.lies
     clear u2790 hz hp hr aS A bs aN
     have HXL:=hid (show gX<_ from ai.bk.lt)
     have HRL:=hid (show w.heap.size+1<_ from Nat.lt_trans HGX.out HXL.out)
     have bS:=bt.c
     have cn:=b1.bk.c5
     have bY:=br.bk.c2
     have cC:=ae.bk.c2
     have cd:=ae.bk.f
     have cz:=cm.bk.c2
     go_wp2
     clear bS cn bY cC cd cz
     go_roundw
     case rel=>
      obtain⟨az,G⟩:∃W,W=((a1.setCell ⟨gX,0,none⟩ (.slice C (makeT (nd0 12 c ⟨#[]⟩) [tt,y]).length D)).setCell ⟨gX,1,none⟩ (.bool false)):=⟨_,rfl⟩
      have bG:=hid (by rw[G];exact((bt.out).mset ae.out 0 _).mset (ae.set 0 (.slice C (makeT (nd0 12 c ⟨#[]⟩) [tt,y]).length D)) 1 _:Sq w0 l a cap N0 s (atQ RY) (bdQ RY) aj az)
      have bv:=hid ((b1.oth (k:=gX) (by have:=HGX.out;omega) 0 (.slice C (makeT (nd0 12 c ⟨#[]⟩) [tt,y]).length D)).oth (k:=gX) (by have:=HGX.out;omega) 1 (.bool false))
      rw[←G]at bv
      have aR:=hid ((br.oth (k:=gX) (by have:=HGX.out;omega) 0 (.slice C (makeT (nd0 12 c ⟨#[]⟩) [tt,y]).length D)).oth (k:=gX) (by have:=HGX.out;omega) 1 (.bool false))
      rw[←G]at aR
      have c7:=hid (by rw[G];exact((ae.set 0 (.slice C (makeT (nd0 12 c ⟨#[]⟩) [tt,y]).length D)).set 1 (.bool false)):Mq w0.heap.size gX #[.slice C (makeT (nd0 12 c ⟨#[]⟩) [tt,y]).length D,.bool false] 95 aj az)
      have bq:=hid ((cb.out.low (g:=gX) (Nat.lt_succ_of_lt HXL.out) 0 (.slice C (makeT (nd0 12 c ⟨#[]⟩) [tt,y]).length D)).low (g:=gX) (Nat.lt_succ_of_lt HXL.out) 1 (.bool false))
      rw[←G]at bq
      have aL:=hid ((ct.set (g:=gX) (.inr (by have:=HGX.out;omega)) 0 (.slice C (makeT (nd0 12 c ⟨#[]⟩) [tt,y]).length D)).set (g:=gX) (.inr (by have:=HGX.out;omega)) 1 (.bool false))
      rw[←G]at aL
      have ds:=hid (show az.heap.size=a1.heap.size by rw[G];simp)
      rw[←G]
      exact⟨K+1,atQ RY,bdQ RY,aj,C,D,_,false,_,by go_num,by omega,bG.out,aL.out,bv.out,aR.out,c7.out,bq.out,Nat.lt_succ_of_lt HRL.out,way_next HBL.out HKL.out HGT.out HOK.out HTE.out HGF.out HGO.out HSTEP.out (Nat.le_of_lt ar.out.1) b0.out ORY.out HJM.out (by have:=ar.out;omega) b8.out⟩
     case measure=>first|(simp[intOf];done)|(simp[intOf];omega)
end
end Go.Proofs.YtebjmdpkobhcbaaGreatDoor.qs

namespace Go.Proofs.YtebjmdpkobhcbaaGreatDoor.qs
open Lib (hid)
open Go.ChangeShapes Go.WideShapes Go.ChangeAt Go.RowKit
open tk (Tk)
open nd (Nd PT KidV makeT)
open ps (Ps posOk)
open pe
open rt (isLval)
open operand (begins)
open lv (opLevel levelOf has)
open pr (Bk Gr X0 below_drewN eq_facts ne_facts fld_k fld_s)
set_option linter.unusedVariables false
set_option linter.unusedSimpArgs false
set_option maxRecDepth 20000
section
variable {w0:World} {l:List Tk} {a:Option Addr} {cap:Nat} {N0:List Tk} {s j:Nat} {v:Value} {E:Ps→Nat→R} {M:Nat}
set_option maxHeartbeats 12800000 in
theorem chain_many(pl:Int)(pd pi pg psg:Bool)(w:World)(hst:Sq w0 l a cap N0 s j false v w)(hc:tk.Lies w0.heap.size w0 a l)(hl:l.length≤6000)(hl3:l.length≤3000)(L:Int)(hC:L=9∨L=10)(h99:∀m,¬kd l m=99)(hN0:N0.length+l.length≤200000)(hcat:L=8→∀t m,begins (kd l m)=true→pe.step E l (kd l m) (cp 8 pi pg) t m=over2 12 99 t (E (cp 9 pi pg) m))(RX:R)(hX:∀(v:Value) (w:World),Sq w0 l a cap N0 s j false v w→Calls Tryz.prog 63 #[.pointer (some ⟨w0.heap.size,0,none⟩),.agg #[.int .i64 (L+1),.bool false,.bool pi,.bool pg,.bool false]] w (Rq w0 l a cap N0 s j v w RX))(oX:Ok M l j RX)(sX:∀lv tg t m,RX= .ok lv tg t m→goes (kd l m) lv tg (cp (L+1) pi pg)=false∧L+1≤lv)(hE:CallS w0 l a cap N0 s E (j+1))(oE:∀p i,i≤l.length→Ok M l i (E p i)):
  Calls Tryz.prog 113 #[.pointer (some ⟨w0.heap.size,0,none⟩),.agg #[.int .i64 pl,.bool pd,.bool pi,.bool pg,.bool psg],.int .i64 L,.int .i64 3000] w (Rq w0 l a cap N0 s j v w (chainR E l L pi pg RX)):=by
 have HC:=hid hc
 have HL:=hid (show l.length≤100000 by omega)
 have b8:=hid hl
 have hL:binL L:=by unfold binL;omega
 have HX:=hid hX
 have OX:=hid oX
 have HE:=hid hE
 have OE:=hid oE
 have HAT:=hid (ok_at oX)
 have aP:=hid hl3
 have HBL:=hid hL
 have cJ:=hid h99
 have aN:=hid hC
 have SX:=hid sX
 have dv:=hid hN0
 have dq:=hid hcat
 obtain⟨W,hW⟩:∃W,W=(w.alloc (.cells #[.int .i64 pl,.bool pd,.bool pi,.bool pg,.bool psg] 44)).alloc (.cells #[.slice none 0 0,.bool false] 95):=⟨_,rfl⟩
 have hB:Below w.heap.size w W:=by rw[hW];exact((Below.refl _ _).alloc (Nat.le_refl _) _).alloc (by simp) _
 have P0:=hid (show Mq w0.heap.size w.heap.size #[.int .i64 pl,.bool pd,.bool pi,.bool pg,.bool psg] 44 v W from Mq.of hst (by rw[hW];exact(Bk.new _ _ _).alloc _) (Nat.le_refl _))
 have R0:=hid (show Mq w0.heap.size (w.heap.size+1) #[.slice none 0 0,.bool false] 95 v W from Mq.of hst (by rw[hW];have:=Bk.new (w.alloc (.cells #[.int .i64 pl,.bool pd,.bool pi,.bool pg,.bool psg] 44)) #[.slice none 0 0,.bool false] 95;simpa using this) (Nat.le_succ _))
 have S0:=hid (hst.keep hB)
 have G0:=hid (show Gr (X0 w0.heap.size) v v w W from Gr.quiet hB)
 have HLT:=hid hst.lt
 have HBS:=hid hB.size
 have HJN:=hid hst.jn
 have HWS:=hid (show W.heap.size=w.heap.size+2 by rw[hW];simp)
 clear hB hst
 have hr:3≤L∧L≤10:=by unfold binL at hL;omega
 have HLR:=hid hr
 have dm:=hr.1
 have dl:=hr.2
 have hsd:∀op,opLevel op=L→(ps.sdS (opLevel op)).1=(ps.sdS L).1∧(ps.sdS (opLevel op)).2=rgt L:=fun op h=>⟨by rw[h],by rw[h];exact rgt_sides hL⟩
 have HSD:=hid hsd
 obtain⟨S1,bK⟩:∃S1,(ps.sdS L).1=S1:=⟨_,rfl⟩
 rw[bK]at HSD
 obtain⟨S2,aq⟩:∃S2,rgt L=S2:=⟨_,rfl⟩
 have cx:=hid aq
 rw[aq]at HSD
 clear hX oX hE oE hc hl hl3 hL h99 hN0 hcat sX hr hsd bK aq hC
 obtain⟨c1,c2,c3,c4⟩:=S0.c
 have m5:=P0.bk.c5
 have bD:=R0.bk.c2
 have bF:=R0.bk.f
 rw[hW]at c1 c2 c3 c4 m5 bD bF
 go_enter Tryz.func113,Tryz.ntmps113
 go_wp2_with fail
 rw[←hW]
 clear c1 c2 c3 c4 m5 bD bF hW
 refine(any_level L _ HBL.out).mono ?_
 rintro e dj ⟨⟨op,rfl,hop⟩,ax⟩
 have aC:=hid (S0.keep ax)
 have aM:=hid (P0.keep ax)
 have aB:=hid (R0.keep ax)
 have cS:=hid (G0.trans (Gr.quiet ax))
 clear ax
 have HOP:=hid hop
 clear hop
 have cM:=aC.c
 have dg:=aM.bk.c5
 have cG:=aB.bk.c2
 go_wp2_with fail
 clear cM dg cG
 refine(ps.spec_sides op _).mono ?_
 rw[(HSD.out op HOP.out).1,(HSD.out op HOP.out).2]
 rintro e ws ⟨rfl,rfl⟩
 have cy:=aC.c
 have cI:=aM.bk.c5
 have df:=aB.bk.c2
 go_wp2_with fail
 clear cy cI df
 refine(part_any _ _ _ _ _ _ _).mono ?_
 rintro e cF ⟨rfl,ap⟩
 have be:=hid (aC.keep ap)
 have bH:=hid (aM.keep ap)
 have aI:=hid (aB.keep ap)
 have cw:=hid (cS.trans (Gr.quiet ap))
 clear ap
 have cK:=be.c
 have c9:=bH.bk.c5
 have da:=aI.bk.c2
 go_wp2_with fail
 clear cK c9 da
 refine(HX.out v cF be.out).mono ?_
 rintro e C ⟨T,aO,aS,bn,rfl,s9,a2,t9,bb⟩
 have bp:=hid s9
 have bB:=hid (bH.go a2)
 have bf:=hid (aI.go a2)
 have ci:=hid (cw.trans a2)
 have cV:=hid t9
 have aX:=hid bb
 obtain⟨aD,aR,rfl,c0⟩:=t9.lies
 clear s9 t9 a2 bb c0
 have HBX:=hid (show w.heap.size+1<_ from aI.bk.lt)
 have dk:=hid (show w.heap.size<C.heap.size from bB.bk.lt)
 have cD:=hid (show(w.heap.size+1)<C.heap.size from bf.bk.lt)
 obtain⟨a3,ak⟩:∃W,W=C.alloc (.cells #[.slice aD aO.length aR,.bool aS] 95):=⟨_,rfl⟩
 have af:Below C.heap.size C a3:=by rw[ak];exact(Below.refl _ _).alloc (Nat.le_refl _) _
 have aQ:=hid (show Mq w0.heap.size C.heap.size #[.slice aD aO.length aR,.bool aS] 95 bn a3 from Mq.of bp.out (by rw[ak];exact Bk.new _ _ _) (Nat.le_refl _))
 have dw:=hid (show a3.heap.size=C.heap.size+1 by rw[ak];simp)
 have aF:=hid (bp.keep af)
 have aH:=hid (bB.keep af)
 have aK:=hid (bf.keep af)
 have bE:=hid (cV.out.keep af)
 have bs:=hid (ci.trans (Gr.quiet af))
 clear af
 obtain⟨T,hT⟩:∃T,T=chainR E l L pi pg RX:=⟨_,rfl⟩
 have HT:=hid hT
 rw[←hT]
 have HREL:=hid (show RelCh M w0 l a cap N0 s j E L pl pd pi pg psg 3000 T v w (C.heap.size) (.int .i64 ((0:Nat):Int)) a3 from⟨0,atQ RX,bdQ RX,bn,aD,aR,aO,aS,_,rfl,Nat.zero_le _,aF.out,bs.out,aH.out,aK.out,aQ.out,bE.out,HBX.out,by
   rw[hT]
   have hq:=aX.out
   have ho:=OX.out
   have hs:=SX.out
   clear hT
   cases RX with
   |bad m=>exact .inl ⟨rfl,rfl,hq⟩
   |ok lv tg t m=>exact .inr ⟨rfl,lv,tg,t,l.length+1,hq,ho,rfl,by omega,(hs _ _ _ _ rfl).1,.inl ⟨rfl,(hs _ _ _ _ rfl).2⟩,ho.1⟩⟩)
 have HGX:=hid (show w.heap.size+1<C.heap.size from cD.out)
 have b4:=aF.c
 have bj:=aH.bk.c5
 have bv:=aK.bk.c2
 have bI:=aQ.bk.c2
 rw[ak]at b4 bj bv bI
 clear hT
 go_wp2
 rw[←ak]
 clear b4 bj bv bI ak
 obtain⟨gX,hgX⟩:∃gX,gX=C.heap.size:=⟨_,rfl⟩
 rw[←hgX]at HREL HGX⊢
 clear hgX
 clear aH aK aQ bE aF bs aX
 go_loopw [12] (fun n wr=>RelCh M w0 l a cap N0 s j E L pl pd pi pg psg 3000 T v w gX n wr) (fun n _=>3001-(intOf n).toNat)
 case atStart=>exact HREL.out
 case round=>
  obtain⟨K,m,bd,vr,aT,cT,tt,hh,B,rfl,hK,hs,hg,hP,hR,hXB,hT,hBB,hway⟩:=hrel
  have Sr:=hid hs
  have Gr':=hid hg
  have Pr:=hid hP
  have Rr:=hid hR
  have XBr:=hid hXB
  have Xr:=hid hT
  have HBB:=hid hBB
  clear hs hg hP hR hXB hT hBB
  have HIS:=hid (fun W2 (h2:Sq w0 l a cap N0 s m bd vr W2)=>is_any L ⟨pl,pd,pi,pg,psg⟩ W2 h2 HC.out HL.out HBL.out)
  rcases hway with ⟨rfl,hTT,hwk⟩|⟨rfl,lv,tg,t',gf,hgt,hok,hTT,hgf,hst,hlv,hjm⟩
  ·
   have HTT:=hid (HT.symm.trans hTT)
   have HWK:=hid hwk
   clear hTT hwk
   by_cases aJ:K<3000
   case pos=>
    have bR:(K:Int)<3000:=by omega
    have Z:=Sr.c
    have ad:=Pr.bk.c5
    have ae:=Rr.bk.c2
    have U:=Rr.bk.f
    have aa:=XBr.bk.c2
    go_wp2_with fail
    clear Z ad ae U aa
    refine(HIS.out _ Sr.out).mono ?_
    rintro e bY ⟨rfl,o⟩
    have J:=hid (Sr.keep o)
    have al:=hid (Pr.keep o)
    have y:=hid (Rr.keep o)
    have ah:=hid (XBr.keep o)
    have ar:=hid (Xr.keep o)
    have an:=hid (Gr'.trans (Gr.quiet o))
    clear o
    have am:=J.c
    have ay:=al.bk.c5
    have au:=y.bk.c2
    have ao:=y.bk.f
    have aw:=ah.bk.c2
    go_wp2
    clear am ay au ao aw
    obtain⟨aE,aA⟩:=(y.bk.put2 (.slice aT tt.length cT) (.bool hh)).c2
    exact bodyPost_ret (v:= .agg #[.slice aT tt.length cT,.bool hh]) (by simp[results,Tryz.results113,go_sem,aE,aA]) rfl (by rw[HTT.out];exact rq_end HLT.out (show Sq w0 l a cap N0 s m true _ _ from J.out) an.out y.out ar.out (by exact Nat.le_succ _) (by exact HBB.out) (HWK.out))
   case neg=>
    have bR:¬(K:Int)<3000:=by omega
    clear aJ
    have Z:=Sr.c
    have ad:=Pr.bk.c5
    have ae:=Rr.bk.c2
    have U:=Rr.bk.f
    have aa:=XBr.bk.c2
    go_wp2
    clear Z ad ae U aa
    obtain⟨cc,cf⟩:=(Rr.bk.put2 (.slice aT tt.length cT) (.bool hh)).c2
    exact bodyPost_ret (v:= .agg #[.slice aT tt.length cT,.bool hh]) (by simp[results,Tryz.results113,go_sem,cc,cf]) rfl (by rw[HTT.out];exact rq_end HLT.out (show Sq w0 l a cap N0 s m true _ _ from Sr.out) Gr'.out Rr.out Xr.out (by exact Nat.le_succ _) (by exact HBB.out) (HWK.out))
  ·
   have cd:=hok.2.1
   have HGT:=hid hgt
   have HOK:=hid hok
   have HJM:=hid hjm
   have HGF:=hid hgf
   have HTE:=hid hTT
   have aJ:K<3000:=by have:=aP.out;omega
   have bR:(K:Int)<3000:=by omega
   have hiso:=is_op HBL.out (cJ.out m) (by rcases hlv with ⟨-,h⟩|⟨-,h,-⟩;exact .inl h;exact .inr ⟨h,by have:=aN.out;omega⟩) hst
   clear hlv hst cd aJ
   obtain⟨c,hcc⟩:∃c,kd l m=c:=⟨_,rfl⟩
   have HCC:=hid hcc
   rw[hcc]at HIS hiso
   by_cases hop:isOp L pg c=true
   case neg=>
    have hop':isOp L pg c=false:=by simpa using hop
    rw[hop']at HIS hiso
    have HTT:=hid (HT.symm.trans (hTT.trans (go_stop (by rw[hcc];exact hiso) (by omega))))
    clear hop hop' hiso hgt hok hjm hgf hTT hcc
    have Z:=Sr.c
    have ad:=Pr.bk.c5
    have ae:=Rr.bk.c2
    have U:=Rr.bk.f
    have aa:=XBr.bk.c2
    go_wp2_with fail
    clear Z ad ae U aa
    refine(HIS.out _ Sr.out).mono ?_
    rintro e bY ⟨rfl,o⟩
    have J:=hid (Sr.keep o)
    have al:=hid (Pr.keep o)
    have y:=hid (Rr.keep o)
    have ah:=hid (XBr.keep o)
    have ar:=hid (Xr.keep o)
    have an:=hid (Gr'.trans (Gr.quiet o))
    clear o
    have am:=J.c
    have ay:=al.bk.c5
    have au:=y.bk.c2
    have ao:=y.bk.f
    have aw:=ah.bk.c2
    go_wp2
    clear am ay au ao aw
    obtain⟨aE,aA⟩:=(y.bk.put2 (.slice aT tt.length cT) (.bool hh)).c2
    exact bodyPost_ret (v:= .agg #[.slice aT tt.length cT,.bool hh]) (by simp[results,Tryz.results113,go_sem,aE,aA]) rfl (by rw[HTT.out];exact rq_end HLT.out (show Sq w0 l a cap N0 s m false _ _ from J.out) an.out y.out ar.out (by exact Nat.le_succ _) (by exact HBB.out) (HGT.out))
   case pos=>
    have HOP:=hid hop
    rw[hop]at HIS hiso
    have HGO:=hid (show goes (kd l m) lv tg (cp L pi pg)=true by rw[hcc];exact hiso)
    have HJL:=hid (show m≤l.length from hok.2.1)
    clear hop hiso hgt hok hjm hgf hTT
    have h8:¬L=8:=by have:=aN.out;omega
    obtain⟨hk_0,hk_2,hk_l⟩:=op_kind HBL.out h8 HOP.out
    have HKL:=hid hk_l
    have HBH:=hid (behind_op (l:=l) (m:=m) HBL.out h8 HOP.out)
    have HML:=hid (kd_lt (l:=l) (i:=m) (by rw[hcc];exact hk_0))
    have HNX:=hid (show¬kd l m=2 by rw[hcc];exact hk_2)
    have q8:(L==8)=false:=by rw[beq_eq_false_iff_ne];exact h8
    have HK:=hid (fun W2 (h2:Sq w0 l a cap N0 s m false vr W2)=>kind_any W2 h2 HC.out HL.out)
    rw[hcc]at HK
    have cl:=hid (show pe.step E l (kd l m) (cp L pi pg) t' m=over2 12 c t' (E (cp (rgt L) pi pg) (behind l c m)) by rw[hcc];exact step_op (by have:=HLR.out;omega) h8 HOP.out)
    have hmb:m≤3000:=by have:=HJL.out;have:=aP.out;omega
    clear hk_0 hk_2 hk_l hcc
    have HRG:=hid (rgt_range HBL.out)
    have aq:=cx.out
    subst aq
    have b3:¬(L=3∨L=4):=by have:=aN.out;omega
    have ck:=hid (show behind l c m=(m+1) by rw[HBH.out];exact if_neg b3)
    have a1:=hid (show m<(m+1)∧(m+1)≤l.length by have:=HML.out;skip;omega)
    obtain⟨RY,hRY⟩:∃R,E (cp (rgt L) pi pg) (m+1)=R:=⟨_,rfl⟩
    have HRY:=hid hRY
    have ORY:=hid (show Ok M l (m+1) RY by rw[←hRY];exact OE.out _ _ a1.out.2)
    have HSTEP:=hid (show pe.step E l (kd l m) (cp L pi pg) t' m=over2 12 c t' RY by rw[cl.out,ck.out,hRY])
    clear hRY
    have q3:(L==3)=false:=by rw[beq_eq_false_iff_ne];omega
    have q4:(L==4)=false:=by rw[beq_eq_false_iff_ne];omega
    clear b3
    have Z:=Sr.c
    have ad:=Pr.bk.c5
    have ae:=Rr.bk.c2
    have U:=Rr.bk.f
    have aa:=XBr.bk.c2
    go_wp2_with fail
    clear Z ad ae U aa
    refine(HIS.out _ Sr.out).mono ?_
    rintro e bY ⟨rfl,o⟩
    have J:=hid (Sr.keep o)
    have al:=hid (Pr.keep o)
    have y:=hid (Rr.keep o)
    have ah:=hid (XBr.keep o)
    have ar:=hid (Xr.keep o)
    have an:=hid (Gr'.trans (Gr.quiet o))
    clear o
    have am:=J.c
    have ay:=al.bk.c5
    have au:=y.bk.c2
    have ao:=y.bk.f
    have aw:=ah.bk.c2
    go_wp2_with fail
    clear am ay au ao aw
    refine(HK.out _ J.out).mono ?_
    rintro e bN ⟨rfl,V⟩
    have a8:=hid (J.keep V)
    have bL:=hid (al.keep V)
    have bM:=hid (y.keep V)
    have bA:=hid (ah.keep V)
    have cO:=hid (ar.keep V)
    have co:=hid (an.trans (Gr.quiet V))
    clear V
    have cq:=a8.c
    have cX:=bL.bk.c5
    have cB:=bM.bk.c2
    have cC:=bA.bk.c2
    have cE:=a8.f
    obtain⟨br,az⟩:∃W,W=bN.setCell ⟨w0.heap.size,1,none⟩ (.int .i64 ((m:Int)+1)):=⟨_,rfl⟩
    have aY:=hid (show Sq w0 l a cap N0 s (m+1) false vr br by rw[az];exact a8.next HML.out HNX.out)
    have aj:Gr (X0 w0.heap.size) vr vr bN br:=by rw[az];exact Gr.box rfl 1 _
    have bx:=hid (bL.go aj)
    have bP:=hid (bM.go aj)
    have bm:=hid (bA.go aj)
    have cb:=hid (cO.go aj)
    have cg:=hid (co.trans aj)
    clear aj
    have bg:=aY.c
    have bo:=bx.bk.c5
    have bC:=bP.bk.c2
    have b0:=bm.bk.c2
    rw[az]at bg bo bC b0
    go_wp2_with fail
    rw[←az]
    clear cq cX cB cC cE bg bo bC b0 az
    refine(part_any _ _ _ _ _ _ _).mono ?_
    rintro e cz ⟨rfl,ab⟩
    have bG:=hid (aY.keep ab)
    have aV:=hid (bx.keep ab)
    have b5:=hid (bP.keep ab)
    have aU:=hid (bm.keep ab)
    have cL:=hid (cb.keep ab)
    have c8:=hid (cg.trans (Gr.quiet ab))
    clear ab
    have cZ:=bG.c
    have c7:=aV.bk.c5
    have ch:=b5.bk.c2
    have cU:=aU.bk.c2
    have ce:=aU.bk.f
    go_wp2_with fail
    clear cZ c7 ch cU ce
    refine(show Calls _ _ _ _ (Rq w0 l a cap N0 s (m+1) vr cz RY) by rw[←HRY.out];exact HE.out _ pi pg false (m+1) _ _ (by have:=HRG.out;omega) (by have:=HRG.out;omega) (by have:=a1.out;have:=HJM.out;omega) bG.out).mono ?_
    rintro e Q ⟨T,A,bl,a5,rfl,s9,ai,t9,b7⟩
    have ba:=hid s9
    have b1:=hid (aV.go ai)
    have bU:=hid (b5.go ai)
    have b9:=hid (aU.go ai)
    have cQ:=hid (cL.go ai)
    have cn:=hid (c8.trans ai)
    have dd:=hid t9
    have bW:=hid b7
    obtain⟨a7,a6,rfl,cH⟩:=t9.lies
    clear s9 t9 ai b7 cH
    have HWX:=hid (gt_wk1 HGT.out HOK.out)
    have HWY:=hid (gt_wk bW.out ORY.out)
    have HOY:=hid (ok_at ORY.out)
    have dp:=hid (show w.heap.size<Q.heap.size from b1.bk.lt)
    have dn:=hid (show(w.heap.size+1)<Q.heap.size from bU.bk.lt)
    have dr:=hid (show gX<Q.heap.size from b9.bk.lt)
    obtain⟨ac,ag⟩:∃W,W=Q.alloc (.cells #[.slice a7 A.length a6,.bool bl] 95):=⟨_,rfl⟩
    have O:Below Q.heap.size Q ac:=by rw[ag];exact(Below.refl _ _).alloc (Nat.le_refl _) _
    have aZ:=hid (show Mq w0.heap.size Q.heap.size #[.slice a7 A.length a6,.bool bl] 95 a5 ac from Mq.of ba.out (by rw[ag];exact Bk.new _ _ _) (Nat.le_refl _))
    have db:=hid (show ac.heap.size=Q.heap.size+1 by rw[ag];simp)
    have aG:=hid (ba.keep O)
    have bQ:=hid (b1.keep O)
    have bX:=hid (bU.keep O)
    have a4:=hid (b9.keep O)
    have bO:=hid (cQ.keep O)
    have bz:=hid (dd.out.keep O)
    have de:=hid (cn.trans (Gr.quiet O))
    clear O
    have bS:=aG.c
    have b2:=bQ.bk.c5
    have aW:=bX.bk.c2
    have bt:=a4.bk.c2
    have bJ:=a4.bk.f
    have bZ:=aZ.bk.c2
    rw[ag]at bS b2 aW bt bJ bZ
    go_wp2_with fail
    rw[←ag]
    clear bS b2 aW bt bJ bZ ag
    have bh:=bO.lies'
    have bV:=bz.lies'
    refine(over2_any db.out 12 c ⟨#[]⟩ tt A bh bV (wk_mono HWX.out (by have:=b8.out;have:=HJL.out;omega)) (wk_mono HWY.out (by have:=b8.out;have:=HOY.out;omega))).mono ?_
    rintro e a9 ⟨T,z,r,rfl,hz,hp,bq,hr⟩
    have u2560:=Tq.of (aG.alloc (.cells #[.slice aT tt.length cT,.slice a7 A.length a6] 26)) hp hr
    rw[hz]at u2560
    have dc:=hid (show(ac.alloc (.cells #[.slice aT tt.length cT,.slice a7 A.length a6] 26)).heap.size=ac.heap.size+1 by simp)
    rw[dc.out]at u2560
    have cr:=hid u2560
    have G:Below ac.heap.size ac a9:=((Below.refl _ _).alloc (Nat.le_refl _) _).trans (bq.mono (by simp))
    have b6:=hid (aG.keep G)
    have bc:=hid (bQ.keep G)
    have ca:=hid (bX.keep G)
    have a0:=hid (a4.keep G)
    have cm:=hid (aZ.keep G)
    have dt:=hid (bO.keep G)
    have ds:=hid (bz.keep G)
    have cY:=hid (de.trans (Gr.quiet G))
    obtain⟨F,D,rfl,-⟩:=u2560.lies
    clear u2560 hz hp hr bq G bh bV
    have HXL:=hid (show gX<_ from a4.bk.lt)
    have HRL:=hid (show w.heap.size+1<_ from Nat.lt_trans HGX.out HXL.out)
    have ct:=b6.c
    have di:=bc.bk.c5
    have dh:=ca.bk.c2
    have cW:=a0.bk.c2
    have cj:=a0.bk.f
    have cR:=cm.bk.c2
    go_wp2
    clear ct di dh cW cj cR
    go_roundw
    case rel=>
     obtain⟨aL,N⟩:∃W,W=((a9.setCell ⟨gX,0,none⟩ (.slice F (makeT (nd0 12 c ⟨#[]⟩) [tt,A]).length D)).setCell ⟨gX,1,none⟩ (.bool false)):=⟨_,rfl⟩
     have c6:=hid (by rw[N];exact((b6.out).mset a0.out 0 _).mset (a0.set 0 (.slice F (makeT (nd0 12 c ⟨#[]⟩) [tt,A]).length D)) 1 _:Sq w0 l a cap N0 s (atQ RY) (bdQ RY) a5 aL)
     have bi:=hid ((bc.oth (k:=gX) (by have:=HGX.out;omega) 0 (.slice F (makeT (nd0 12 c ⟨#[]⟩) [tt,A]).length D)).oth (k:=gX) (by have:=HGX.out;omega) 1 (.bool false))
     rw[←N]at bi
     have bu:=hid ((ca.oth (k:=gX) (by have:=HGX.out;omega) 0 (.slice F (makeT (nd0 12 c ⟨#[]⟩) [tt,A]).length D)).oth (k:=gX) (by have:=HGX.out;omega) 1 (.bool false))
     rw[←N]at bu
     have cA:=hid (by rw[N];exact((a0.set 0 (.slice F (makeT (nd0 12 c ⟨#[]⟩) [tt,A]).length D)).set 1 (.bool false)):Mq w0.heap.size gX #[.slice F (makeT (nd0 12 c ⟨#[]⟩) [tt,A]).length D,.bool false] 95 a5 aL)
     have bw:=hid ((cr.out.low (g:=gX) (Nat.lt_succ_of_lt HXL.out) 0 (.slice F (makeT (nd0 12 c ⟨#[]⟩) [tt,A]).length D)).low (g:=gX) (Nat.lt_succ_of_lt HXL.out) 1 (.bool false))
     rw[←N]at bw
     have bT:=hid ((cY.set (g:=gX) (.inr (by have:=HGX.out;omega)) 0 (.slice F (makeT (nd0 12 c ⟨#[]⟩) [tt,A]).length D)).set (g:=gX) (.inr (by have:=HGX.out;omega)) 1 (.bool false))
     rw[←N]at bT
     have du:=hid (show aL.heap.size=a9.heap.size by rw[N];simp)
     rw[←N]
     exact⟨K+1,atQ RY,bdQ RY,a5,F,D,_,false,_,by go_num,by omega,c6.out,bT.out,bi.out,bu.out,cA.out,bw.out,Nat.lt_succ_of_lt HRL.out,way_next HBL.out HKL.out HGT.out HOK.out HTE.out HGF.out HGO.out HSTEP.out (Nat.le_of_lt a1.out.1) bW.out ORY.out HJM.out (by have:=a1.out;omega) aP.out⟩
    case measure=>first|(simp[intOf];done)|(simp[intOf];omega)
end
end Go.Proofs.YtebjmdpkobhcbaaGreatDoor.qs
