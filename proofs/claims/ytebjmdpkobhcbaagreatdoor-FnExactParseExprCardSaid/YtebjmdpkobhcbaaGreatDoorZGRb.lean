/- A part of the proof; no condition of its own. -/
import Derived.Test.YtebjmdpkobhcbaaGreatDoorZRa
namespace Go.Proofs.YtebjmdpkobhcbaaGreatDoor.qs
open Lib (hid)
open Go.ChangeShapes Go.WideShapes Go.ChangeAt Go.RowKit
open tk (Tk)
open nd (Nd PT KidV makeT)
open ps (Ps posOk)
open pe
open rt (isLval)
open operand (begins)
open lv (opLevel levelOf has)
open pr (Bk Gr X0 below_drewN eq_facts ne_facts fld_k fld_s)
set_option linter.unusedVariables false
set_option linter.unusedSimpArgs false
set_option maxRecDepth 20000
section
variable {w0:World} {l:List Tk} {a:Option Addr} {cap:Nat} {N0:List Tk} {s j:Nat} {v:Value} {E:Ps→Nat→R} {M:Nat}
set_option maxHeartbeats 12800000 in
theorem chain_one(pl:Int)(pd pi pg psg:Bool)(w:World)(hst:Sq w0 l a cap N0 s j false v w)(hc:tk.Lies w0.heap.size w0 a l)(hl:l.length≤6000)(hl3:l.length≤3000)(L:Int)(hC:L=6∨L=7)(h99:∀m,¬kd l m=99)(hN0:N0.length+l.length≤200000)(hcat:L=8→∀t m,begins (kd l m)=true→pe.step E l (kd l m) (cp 8 pi pg) t m=over2 12 99 t (E (cp 9 pi pg) m))(RX:R)(hX:∀(v:Value) (w:World),Sq w0 l a cap N0 s j false v w→Calls Tryz.prog 63 #[.pointer (some ⟨w0.heap.size,0,none⟩),.agg #[.int .i64 (L+1),.bool false,.bool pi,.bool pg,.bool false]] w (Rq w0 l a cap N0 s j v w RX))(oX:Ok M l j RX)(sX:∀lv tg t m,RX= .ok lv tg t m→goes (kd l m) lv tg (cp (L+1) pi pg)=false∧L+1≤lv)(hE:CallS w0 l a cap N0 s E (j+1))(oE:∀p i,i≤l.length→Ok M l i (E p i)):
  Calls Tryz.prog 113 #[.pointer (some ⟨w0.heap.size,0,none⟩),.agg #[.int .i64 pl,.bool pd,.bool pi,.bool pg,.bool psg],.int .i64 L,.int .i64 1] w (Rq w0 l a cap N0 s j v w (chainR E l L pi pg RX)):=by
 have HC:=hid hc
 have HL:=hid (show l.length≤100000 by omega)
 have bC:=hid hl
 have hL:binL L:=by unfold binL;omega
 have HX:=hid hX
 have OX:=hid oX
 have HE:=hid hE
 have OE:=hid oE
 have HAT:=hid (ok_at oX)
 have bT:=hid hl3
 have HBL:=hid hL
 have cJ:=hid h99
 have aO:=hid hC
 have SX:=hid sX
 have dv:=hid hN0
 have dq:=hid hcat
 obtain⟨W,hW⟩:∃W,W=(w.alloc (.cells #[.int .i64 pl,.bool pd,.bool pi,.bool pg,.bool psg] 44)).alloc (.cells #[.slice none 0 0,.bool false] 95):=⟨_,rfl⟩
 have hB:Below w.heap.size w W:=by rw[hW];exact((Below.refl _ _).alloc (Nat.le_refl _) _).alloc (by simp) _
 have P0:=hid (show Mq w0.heap.size w.heap.size #[.int .i64 pl,.bool pd,.bool pi,.bool pg,.bool psg] 44 v W from Mq.of hst (by rw[hW];exact(Bk.new _ _ _).alloc _) (Nat.le_refl _))
 have R0:=hid (show Mq w0.heap.size (w.heap.size+1) #[.slice none 0 0,.bool false] 95 v W from Mq.of hst (by rw[hW];have:=Bk.new (w.alloc (.cells #[.int .i64 pl,.bool pd,.bool pi,.bool pg,.bool psg] 44)) #[.slice none 0 0,.bool false] 95;simpa using this) (Nat.le_succ _))
 have S0:=hid (hst.keep hB)
 have G0:=hid (show Gr (X0 w0.heap.size) v v w W from Gr.quiet hB)
 have HLT:=hid hst.lt
 have HBS:=hid hB.size
 have HJN:=hid hst.jn
 have HWS:=hid (show W.heap.size=w.heap.size+2 by rw[hW];simp)
 clear hB hst
 have hr:3≤L∧L≤10:=by unfold binL at hL;omega
 have HLR:=hid hr
 have dm:=hr.1
 have dl:=hr.2
 have hsd:∀op,opLevel op=L→(ps.sdS (opLevel op)).1=(ps.sdS L).1∧(ps.sdS (opLevel op)).2=rgt L:=fun op h=>⟨by rw[h],by rw[h];exact rgt_sides hL⟩
 have HSD:=hid hsd
 obtain⟨S1,aP⟩:∃S1,(ps.sdS L).1=S1:=⟨_,rfl⟩
 rw[aP]at HSD
 obtain⟨S2,aq⟩:∃S2,rgt L=S2:=⟨_,rfl⟩
 have cx:=hid aq
 rw[aq]at HSD
 have hleft:S1=L+1:=by rcases hC with rfl|rfl<;>exact aP.symm
 clear hX oX hE oE hc hl hl3 hL h99 hN0 hcat sX hr hsd aP aq hC
 obtain⟨c1,c2,c3,c4⟩:=S0.c
 have m5:=P0.bk.c5
 have bH:=R0.bk.c2
 have bJ:=R0.bk.f
 rw[hW]at c1 c2 c3 c4 m5 bH bJ
 go_enter Tryz.func113,Tryz.ntmps113
 go_wp2_with fail
 rw[←hW]
 clear c1 c2 c3 c4 m5 bH bJ hW
 refine(any_level L _ HBL.out).mono ?_
 rintro e dj ⟨⟨op,rfl,hop⟩,ax⟩
 have aE:=hid (S0.keep ax)
 have aN:=hid (P0.keep ax)
 have aD:=hid (R0.keep ax)
 have cS:=hid (G0.trans (Gr.quiet ax))
 clear ax
 have HOP:=hid hop
 clear hop
 have cM:=aE.c
 have dg:=aN.bk.c5
 have cG:=aD.bk.c2
 go_wp2_with fail
 clear cM dg cG
 refine(ps.spec_sides op _).mono ?_
 rw[(HSD.out op HOP.out).1,(HSD.out op HOP.out).2]
 rintro e ws ⟨rfl,rfl⟩
 subst hleft
 have cy:=aE.c
 have cI:=aN.bk.c5
 have df:=aD.bk.c2
 go_wp2_with fail
 clear cy cI df
 refine(part_any _ _ _ _ _ _ _).mono ?_
 rintro e cF ⟨rfl,ap⟩
 have bh:=hid (aE.keep ap)
 have bL:=hid (aN.keep ap)
 have aK:=hid (aD.keep ap)
 have cw:=hid (cS.trans (Gr.quiet ap))
 clear ap
 have cK:=bh.c
 have c9:=bL.bk.c5
 have da:=aK.bk.c2
 go_wp2_with fail
 clear cK c9 da
 refine(HX.out v cF bh.out).mono ?_
 rintro e C ⟨T,aQ,aV,bq,rfl,s9,a2,t9,bf⟩
 have bs:=hid s9
 have bF:=hid (bL.go a2)
 have bi:=hid (aK.go a2)
 have ci:=hid (cw.trans a2)
 have cV:=hid t9
 have ba:=hid bf
 obtain⟨aF,aU,rfl,c0⟩:=t9.lies
 clear s9 t9 a2 bf c0
 have HBX:=hid (show w.heap.size+1<_ from aK.bk.lt)
 have dk:=hid (show w.heap.size<C.heap.size from bF.bk.lt)
 have cD:=hid (show(w.heap.size+1)<C.heap.size from bi.bk.lt)
 obtain⟨a3,ak⟩:∃W,W=C.alloc (.cells #[.slice aF aQ.length aU,.bool aV] 95):=⟨_,rfl⟩
 have af:Below C.heap.size C a3:=by rw[ak];exact(Below.refl _ _).alloc (Nat.le_refl _) _
 have aR:=hid (show Mq w0.heap.size C.heap.size #[.slice aF aQ.length aU,.bool aV] 95 bq a3 from Mq.of bs.out (by rw[ak];exact Bk.new _ _ _) (Nat.le_refl _))
 have dw:=hid (show a3.heap.size=C.heap.size+1 by rw[ak];simp)
 have aH:=hid (bs.keep af)
 have aJ:=hid (bF.keep af)
 have aL:=hid (bi.keep af)
 have bI:=hid (cV.out.keep af)
 have bv:=hid (ci.trans (Gr.quiet af))
 clear af
 obtain⟨T,hT⟩:∃T,T=chainR E l L pi pg RX:=⟨_,rfl⟩
 have HT:=hid hT
 rw[←hT]
 have HREL:=hid (show RelCh M w0 l a cap N0 s j E L pl pd pi pg psg 1 T v w (C.heap.size) (.int .i64 ((0:Nat):Int)) a3 from⟨0,atQ RX,bdQ RX,bq,aF,aU,aQ,aV,_,rfl,Nat.zero_le _,aH.out,bv.out,aJ.out,aL.out,aR.out,bI.out,HBX.out,by
   rw[hT]
   have hq:=ba.out
   have ho:=OX.out
   have hs:=SX.out
   clear hT
   cases RX with
   |bad m=>exact .inl ⟨rfl,rfl,hq⟩
   |ok lv tg t m=>exact .inr ⟨rfl,lv,tg,t,l.length+1,hq,ho,rfl,by omega,(hs _ _ _ _ rfl).1,.inl ⟨rfl,(hs _ _ _ _ rfl).2⟩,ho.1⟩⟩)
 have HGX:=hid (show w.heap.size+1<C.heap.size from cD.out)
 have b8:=aH.c
 have bn:=aJ.bk.c5
 have bz:=aL.bk.c2
 have bM:=aR.bk.c2
 rw[ak]at b8 bn bz bM
 clear hT
 go_wp2
 rw[←ak]
 clear b8 bn bz bM ak
 obtain⟨gX,hgX⟩:∃gX,gX=C.heap.size:=⟨_,rfl⟩
 rw[←hgX]at HREL HGX⊢
 clear hgX
 clear aJ aL aR bI aH bv ba
 go_loopw [12] (fun n wr=>RelCh M w0 l a cap N0 s j E L pl pd pi pg psg 1 T v w gX n wr) (fun n _=>3001-(intOf n).toNat)
 case atStart=>exact HREL.out
 case round=>
  obtain⟨K,m,bd,vr,aT,cT,tt,hh,B,rfl,hK,hs,hg,hP,hR,hXB,hT,hBB,hway⟩:=hrel
  have Sr:=hid hs
  have Gr':=hid hg
  have Pr:=hid hP
  have Rr:=hid hR
  have XBr:=hid hXB
  have Xr:=hid hT
  have HBB:=hid hBB
  clear hs hg hP hR hXB hT hBB
  have HIS:=hid (fun W2 (h2:Sq w0 l a cap N0 s m bd vr W2)=>is_any L ⟨pl,pd,pi,pg,psg⟩ W2 h2 HC.out HL.out HBL.out)
  rcases hway with ⟨rfl,hTT,hwk⟩|⟨rfl,lv,tg,t',gf,hgt,hok,hTT,hgf,hst,hlv,hjm⟩
  ·
   have HTT:=hid (HT.symm.trans hTT)
   have HWK:=hid hwk
   clear hTT hwk
   by_cases hk0:K=0
   case pos=>
    subst hk0
    have aS:((0:Nat):Int)<1:=by decide
    have G:=Sr.c
    have Q:=Pr.bk.c5
    have V:=Rr.bk.c2
    have D:=Rr.bk.f
    have J:=XBr.bk.c2
    go_wp2_with fail
    clear G Q V D J
    refine(HIS.out _ Sr.out).mono ?_
    rintro e cb ⟨rfl,o⟩
    have U:=hid (Sr.keep o)
    have al:=hid (Pr.keep o)
    have y:=hid (Rr.keep o)
    have ah:=hid (XBr.keep o)
    have ar:=hid (Xr.keep o)
    have an:=hid (Gr'.trans (Gr.quiet o))
    clear o
    have am:=U.c
    have ay:=al.bk.c5
    have au:=y.bk.c2
    have ao:=y.bk.f
    have aw:=ah.bk.c2
    go_wp2
    clear am ay au ao aw
    obtain⟨aG,aC⟩:=(y.bk.put2 (.slice aT tt.length cT) (.bool hh)).c2
    exact bodyPost_ret (v:= .agg #[.slice aT tt.length cT,.bool hh]) (by simp[results,Tryz.results113,go_sem,aG,aC]) rfl (by rw[HTT.out];exact rq_end HLT.out (show Sq w0 l a cap N0 s m true _ _ from U.out) an.out y.out ar.out (by exact Nat.le_succ _) (by exact HBB.out) (HWK.out))
   case neg=>
    have aS:¬(K:Int)<1:=by omega
    clear hk0
    have G:=Sr.c
    have Q:=Pr.bk.c5
    have V:=Rr.bk.c2
    have D:=Rr.bk.f
    have J:=XBr.bk.c2
    go_wp2
    clear G Q V D J
    obtain⟨a8,a9⟩:=(Rr.bk.put2 (.slice aT tt.length cT) (.bool hh)).c2
    exact bodyPost_ret (v:= .agg #[.slice aT tt.length cT,.bool hh]) (by simp[results,Tryz.results113,go_sem,a8,a9]) rfl (by rw[HTT.out];exact rq_end HLT.out (show Sq w0 l a cap N0 s m true _ _ from Sr.out) Gr'.out Rr.out Xr.out (by exact Nat.le_succ _) (by exact HBB.out) (HWK.out))
  ·
   have aY:=hok.2.1
   have HGT:=hid hgt
   have HOK:=hid hok
   have HJM:=hid hjm
   have HGF:=hid hgf
   have HTE:=hid hTT
   by_cases hk0:K=0
   case neg=>
    obtain⟨-,rfl,rfl⟩:0<K∧lv=L∧tg=false:=by rcases hlv with ⟨h,-⟩|h;exact absurd h hk0;exact h
    have HTT:=hid (HT.symm.trans (hTT.trans (go_stop (no_same (by have:=aO.out;omega)) (by omega))))
    have aS:¬(K:Int)<1:=by omega
    clear hk0 hlv hgt hok hjm hgf hTT hst aY
    have G:=Sr.c
    have Q:=Pr.bk.c5
    have V:=Rr.bk.c2
    have D:=Rr.bk.f
    have J:=XBr.bk.c2
    go_wp2
    clear G Q V D J
    obtain⟨a8,a9⟩:=(Rr.bk.put2 (.slice aT tt.length cT) (.bool hh)).c2
    exact bodyPost_ret (v:= .agg #[.slice aT tt.length cT,.bool hh]) (by simp[results,Tryz.results113,go_sem,a8,a9]) rfl (by rw[HTT.out];exact rq_end HLT.out (show Sq w0 l a cap N0 s m false _ _ from Sr.out) Gr'.out Rr.out Xr.out (by exact Nat.le_succ _) (by exact HBB.out) (HGT.out))
   case pos=>
    subst hk0
    have aS:((0:Nat):Int)<1:=by decide
    have b6:L+1≤lv:=by rcases hlv with ⟨-,h⟩|⟨h,-⟩;exact h;cases h
    have hiso:=is_op HBL.out (cJ.out m) (.inl b6) hst
    clear hlv b6 hst aY
    obtain⟨c,hcc⟩:∃c,kd l m=c:=⟨_,rfl⟩
    have HCC:=hid hcc
    rw[hcc]at HIS hiso
    by_cases hop:isOp L pg c=true
    case neg=>
     have hop':isOp L pg c=false:=by simpa using hop
     rw[hop']at HIS hiso
     have HTT:=hid (HT.symm.trans (hTT.trans (go_stop (by rw[hcc];exact hiso) (by omega))))
     clear hop hop' hiso hgt hok hjm hgf hTT hcc
     have G:=Sr.c
     have Q:=Pr.bk.c5
     have V:=Rr.bk.c2
     have D:=Rr.bk.f
     have J:=XBr.bk.c2
     go_wp2_with fail
     clear G Q V D J
     refine(HIS.out _ Sr.out).mono ?_
     rintro e cb ⟨rfl,o⟩
     have U:=hid (Sr.keep o)
     have al:=hid (Pr.keep o)
     have y:=hid (Rr.keep o)
     have ah:=hid (XBr.keep o)
     have ar:=hid (Xr.keep o)
     have an:=hid (Gr'.trans (Gr.quiet o))
     clear o
     have am:=U.c
     have ay:=al.bk.c5
     have au:=y.bk.c2
     have ao:=y.bk.f
     have aw:=ah.bk.c2
     go_wp2
     clear am ay au ao aw
     obtain⟨aG,aC⟩:=(y.bk.put2 (.slice aT tt.length cT) (.bool hh)).c2
     exact bodyPost_ret (v:= .agg #[.slice aT tt.length cT,.bool hh]) (by simp[results,Tryz.results113,go_sem,aG,aC]) rfl (by rw[HTT.out];exact rq_end HLT.out (show Sq w0 l a cap N0 s m false _ _ from U.out) an.out y.out ar.out (by exact Nat.le_succ _) (by exact HBB.out) (HGT.out))
    case pos=>
     have HOP:=hid hop
     rw[hop]at HIS hiso
     have HGO:=hid (show goes (kd l m) lv tg (cp L pi pg)=true by rw[hcc];exact hiso)
     have HJL:=hid (show m≤l.length from hok.2.1)
     clear hop hiso hgt hok hjm hgf hTT
     have h8:¬L=8:=by have:=aO.out;omega
     obtain⟨hk_0,hk_2,hk_l⟩:=op_kind HBL.out h8 HOP.out
     have HKL:=hid hk_l
     have HBH:=hid (behind_op (l:=l) (m:=m) HBL.out h8 HOP.out)
     have HML:=hid (kd_lt (l:=l) (i:=m) (by rw[hcc];exact hk_0))
     have HNX:=hid (show¬kd l m=2 by rw[hcc];exact hk_2)
     have q8:(L==8)=false:=by rw[beq_eq_false_iff_ne];exact h8
     have HK:=hid (fun W2 (h2:Sq w0 l a cap N0 s m false vr W2)=>kind_any W2 h2 HC.out HL.out)
     rw[hcc]at HK
     have cl:=hid (show pe.step E l (kd l m) (cp L pi pg) t' m=over2 12 c t' (E (cp (rgt L) pi pg) (behind l c m)) by rw[hcc];exact step_op (by have:=HLR.out;omega) h8 HOP.out)
     have hmb:m≤3000:=by have:=HJL.out;have:=bT.out;omega
     clear hk_0 hk_2 hk_l hcc
     have HRG:=hid (rgt_range HBL.out)
     have aq:=cx.out
     subst aq
     have b7:¬(L=3∨L=4):=by have:=aO.out;omega
     have ck:=hid (show behind l c m=(m+1) by rw[HBH.out];exact if_neg b7)
     have a1:=hid (show m<(m+1)∧(m+1)≤l.length by have:=HML.out;skip;omega)
     obtain⟨RY,hRY⟩:∃R,E (cp (rgt L) pi pg) (m+1)=R:=⟨_,rfl⟩
     have HRY:=hid hRY
     have ORY:=hid (show Ok M l (m+1) RY by rw[←hRY];exact OE.out _ _ a1.out.2)
     have HSTEP:=hid (show pe.step E l (kd l m) (cp L pi pg) t' m=over2 12 c t' RY by rw[cl.out,ck.out,hRY])
     clear hRY
     have q3:(L==3)=false:=by rw[beq_eq_false_iff_ne];omega
     have q4:(L==4)=false:=by rw[beq_eq_false_iff_ne];omega
     clear b7
     have G:=Sr.c
     have Q:=Pr.bk.c5
     have V:=Rr.bk.c2
     have D:=Rr.bk.f
     have J:=XBr.bk.c2
     go_wp2_with fail
     clear G Q V D J
     refine(HIS.out _ Sr.out).mono ?_
     rintro e cb ⟨rfl,o⟩
     have U:=hid (Sr.keep o)
     have al:=hid (Pr.keep o)
     have y:=hid (Rr.keep o)
     have ah:=hid (XBr.keep o)
     have ar:=hid (Xr.keep o)
     have an:=hid (Gr'.trans (Gr.quiet o))
     clear o
     have am:=U.c
     have ay:=al.bk.c5
     have au:=y.bk.c2
     have ao:=y.bk.f
     have aw:=ah.bk.c2
     go_wp2_with fail
     clear am ay au ao aw
     refine(HK.out _ U.out).mono ?_
     rintro e bQ ⟨rfl,ac⟩
     have aA:=hid (U.keep ac)
     have bO:=hid (al.keep ac)
     have bP:=hid (y.keep ac)
     have bE:=hid (ah.keep ac)
     have cO:=hid (ar.keep ac)
     have co:=hid (an.trans (Gr.quiet ac))
     clear ac
     have cq:=aA.c
     have cX:=bO.bk.c5
     have cB:=bP.bk.c2
     have cC:=bE.bk.c2
     have cE:=aA.f
     obtain⟨bu,az⟩:∃W,W=bQ.setCell ⟨w0.heap.size,1,none⟩ (.int .i64 ((m:Int)+1)):=⟨_,rfl⟩
     have bb:=hid (show Sq w0 l a cap N0 s (m+1) false vr bu by rw[az];exact aA.next HML.out HNX.out)
     have aj:Gr (X0 w0.heap.size) vr vr bQ bu:=by rw[az];exact Gr.box rfl 1 _
     have b1:=hid (bO.go aj)
     have bS:=hid (bP.go aj)
     have bp:=hid (bE.go aj)
     have ce:=hid (cO.go aj)
     have cg:=hid (co.trans aj)
     clear aj
     have bj:=bb.c
     have br:=b1.bk.c5
     have bG:=bS.bk.c2
     have b3:=bp.bk.c2
     rw[az]at bj br bG b3
     go_wp2_with fail
     rw[←az]
     clear cq cX cB cC cE bj br bG b3 az
     refine(part_any _ _ _ _ _ _ _).mono ?_
     rintro e cz ⟨rfl,ad⟩
     have bK:=hid (bb.keep ad)
     have aX:=hid (b1.keep ad)
     have b9:=hid (bS.keep ad)
     have aW:=hid (bp.keep ad)
     have cL:=hid (ce.keep ad)
     have c8:=hid (cg.trans (Gr.quiet ad))
     clear ad
     have cZ:=bK.c
     have c7:=aX.bk.c5
     have ch:=b9.bk.c2
     have cU:=aW.bk.c2
     have cf:=aW.bk.f
     go_wp2_with fail
     clear cZ c7 ch cU cf
     refine(show Calls _ _ _ _ (Rq w0 l a cap N0 s (m+1) vr cz RY) by rw[←HRY.out];exact HE.out _ pi pg false (m+1) _ _ (by have:=HRG.out;omega) (by have:=HRG.out;omega) (by have:=a1.out;have:=HJM.out;omega) bK.out).mono ?_
     rintro e ab ⟨T,A,bo,a5,rfl,s9,ai,t9,bB⟩
     have be:=hid s9
     have b4:=hid (aX.go ai)
     have bX:=hid (b9.go ai)
     have bD:=hid (aW.go ai)
     have cQ:=hid (cL.go ai)
     have cn:=hid (c8.trans ai)
     have dd:=hid t9
     have bZ:=hid bB
     obtain⟨a7,a6,rfl,cH⟩:=t9.lies
     clear s9 t9 ai bB cH
     have HWX:=hid (gt_wk1 HGT.out HOK.out)
     have HWY:=hid (gt_wk bZ.out ORY.out)
     have HOY:=hid (ok_at ORY.out)
     have dp:=hid (show w.heap.size<ab.heap.size from b4.bk.lt)
     have dn:=hid (show(w.heap.size+1)<ab.heap.size from bX.bk.lt)
     have dr:=hid (show gX<ab.heap.size from bD.bk.lt)
     obtain⟨ae,ag⟩:∃W,W=ab.alloc (.cells #[.slice a7 A.length a6,.bool bo] 95):=⟨_,rfl⟩
     have aa:Below ab.heap.size ab ae:=by rw[ag];exact(Below.refl _ _).alloc (Nat.le_refl _) _
     have bc:=hid (show Mq w0.heap.size ab.heap.size #[.slice a7 A.length a6,.bool bo] 95 a5 ae from Mq.of be.out (by rw[ag];exact Bk.new _ _ _) (Nat.le_refl _))
     have db:=hid (show ae.heap.size=ab.heap.size+1 by rw[ag];simp)
     have aI:=hid (be.keep aa)
     have bU:=hid (b4.keep aa)
     have ca:=hid (bX.keep aa)
     have a4:=hid (bD.keep aa)
     have bR:=hid (cQ.keep aa)
     have b2:=hid (dd.out.keep aa)
     have de:=hid (cn.trans (Gr.quiet aa))
     clear aa
     have bV:=aI.c
     have b5:=bU.bk.c5
     have aZ:=ca.bk.c2
     have bw:=a4.bk.c2
     have bN:=a4.bk.f
     have cc:=bc.bk.c2
     rw[ag]at bV b5 aZ bw bN cc
     go_wp2_with fail
     rw[←ag]
     clear bV b5 aZ bw bN cc ag
     have bl:=bR.lies'
     have bY:=b2.lies'
     refine(over2_any db.out 12 c ⟨#[]⟩ tt A bl bY (wk_mono HWX.out (by have:=bC.out;have:=HJL.out;omega)) (wk_mono HWY.out (by have:=bC.out;have:=HOY.out;omega))).mono ?_
     rintro e aB ⟨T,z,r,rfl,hz,hp,bt,hr⟩
     have u2560:=Tq.of (aI.alloc (.cells #[.slice aT tt.length cT,.slice a7 A.length a6] 26)) hp hr
     rw[hz]at u2560
     have dc:=hid (show(ae.alloc (.cells #[.slice aT tt.length cT,.slice a7 A.length a6] 26)).heap.size=ae.heap.size+1 by simp)
     rw[dc.out]at u2560
     have cr:=hid u2560
     have O:Below ae.heap.size ae aB:=((Below.refl _ _).alloc (Nat.le_refl _) _).trans (bt.mono (by simp))
     have bA:=hid (aI.keep O)
     have bg:=hid (bU.keep O)
     have cd:=hid (ca.keep O)
     have a0:=hid (a4.keep O)
     have cm:=hid (bc.keep O)
     have dt:=hid (bR.keep O)
     have ds:=hid (b2.keep O)
     have cY:=hid (de.trans (Gr.quiet O))
     obtain⟨N,F,rfl,-⟩:=u2560.lies
     clear u2560 hz hp hr bt O bl bY
     have HXL:=hid (show gX<_ from a4.bk.lt)
     have HRL:=hid (show w.heap.size+1<_ from Nat.lt_trans HGX.out HXL.out)
     have ct:=bA.c
     have di:=bg.bk.c5
     have dh:=cd.bk.c2
     have cW:=a0.bk.c2
     have cj:=a0.bk.f
     have cR:=cm.bk.c2
     go_wp2
     clear ct di dh cW cj cR
     go_roundw
     case rel=>
      obtain⟨aM,Z⟩:∃W,W=((aB.setCell ⟨gX,0,none⟩ (.slice N (makeT (nd0 12 c ⟨#[]⟩) [tt,A]).length F)).setCell ⟨gX,1,none⟩ (.bool false)):=⟨_,rfl⟩
      have c6:=hid (by rw[Z];exact((bA.out).mset a0.out 0 _).mset (a0.set 0 (.slice N (makeT (nd0 12 c ⟨#[]⟩) [tt,A]).length F)) 1 _:Sq w0 l a cap N0 s (atQ RY) (bdQ RY) a5 aM)
      have bm:=hid ((bg.oth (k:=gX) (by have:=HGX.out;omega) 0 (.slice N (makeT (nd0 12 c ⟨#[]⟩) [tt,A]).length F)).oth (k:=gX) (by have:=HGX.out;omega) 1 (.bool false))
      rw[←Z]at bm
      have bx:=hid ((cd.oth (k:=gX) (by have:=HGX.out;omega) 0 (.slice N (makeT (nd0 12 c ⟨#[]⟩) [tt,A]).length F)).oth (k:=gX) (by have:=HGX.out;omega) 1 (.bool false))
      rw[←Z]at bx
      have cA:=hid (by rw[Z];exact((a0.set 0 (.slice N (makeT (nd0 12 c ⟨#[]⟩) [tt,A]).length F)).set 1 (.bool false)):Mq w0.heap.size gX #[.slice N (makeT (nd0 12 c ⟨#[]⟩) [tt,A]).length F,.bool false] 95 a5 aM)
      have b0:=hid ((cr.out.low (g:=gX) (Nat.lt_succ_of_lt HXL.out) 0 (.slice N (makeT (nd0 12 c ⟨#[]⟩) [tt,A]).length F)).low (g:=gX) (Nat.lt_succ_of_lt HXL.out) 1 (.bool false))
      rw[←Z]at b0
      have bW:=hid ((cY.set (g:=gX) (.inr (by have:=HGX.out;omega)) 0 (.slice N (makeT (nd0 12 c ⟨#[]⟩) [tt,A]).length F)).set (g:=gX) (.inr (by have:=HGX.out;omega)) 1 (.bool false))
      rw[←Z]at bW
      have du:=hid (show aM.heap.size=aB.heap.size by rw[Z];simp)
      rw[←Z]
      exact⟨0+1,atQ RY,bdQ RY,a5,N,F,_,false,_,by go_num,by omega,c6.out,bW.out,bm.out,bx.out,cA.out,b0.out,Nat.lt_succ_of_lt HRL.out,way_next HBL.out HKL.out HGT.out HOK.out HTE.out HGF.out HGO.out HSTEP.out (Nat.le_of_lt a1.out.1) bZ.out ORY.out HJM.out (by have:=a1.out;omega) bT.out⟩
     case measure=>first|(simp[intOf];done)|(simp[intOf];omega)
end
end Go.Proofs.YtebjmdpkobhcbaaGreatDoor.qs

namespace Go.Proofs.YtebjmdpkobhcbaaGreatDoor.qs
open Lib (hid)
open Go.ChangeShapes Go.WideShapes Go.ChangeAt Go.RowKit
open tk (Tk)
open nd (Nd PT KidV makeT)
open ps (Ps posOk)
open pe
open rt (isLval)
open operand (begins)
open lv (opLevel levelOf has)
open pr (Bk Gr X0 below_drewN eq_facts ne_facts fld_k fld_s)
set_option linter.unusedVariables false
set_option linter.unusedSimpArgs false
set_option maxRecDepth 20000
section
variable {w0:World} {l:List Tk} {a:Option Addr} {cap:Nat} {N0:List Tk} {s j:Nat} {v:Value} {E:Ps→Nat→R} {M:Nat}
set_option maxHeartbeats 12800000 in
theorem chain_cat(pl:Int)(pd pi pg psg:Bool)(w:World)(hst:Sq w0 l a cap N0 s j false v w)(hc:tk.Lies w0.heap.size w0 a l)(hl:l.length≤6000)(hl3:l.length≤3000)(L:Int)(hC:L=8)(h99:∀m,¬kd l m=99)(hN0:N0.length+l.length≤200000)(hcat:L=8→∀t m,begins (kd l m)=true→pe.step E l (kd l m) (cp 8 pi pg) t m=over2 12 99 t (E (cp 9 pi pg) m))(RX:R)(hX:∀(v:Value) (w:World),Sq w0 l a cap N0 s j false v w→Calls Tryz.prog 63 #[.pointer (some ⟨w0.heap.size,0,none⟩),.agg #[.int .i64 (L+1),.bool false,.bool pi,.bool pg,.bool false]] w (Rq w0 l a cap N0 s j v w RX))(oX:Ok M l j RX)(sX:∀lv tg t m,RX= .ok lv tg t m→goes (kd l m) lv tg (cp (L+1) pi pg)=false∧L+1≤lv)(hE:CallS w0 l a cap N0 s E (j+1))(oE:∀p i,i≤l.length→Ok M l i (E p i)):
  Calls Tryz.prog 113 #[.pointer (some ⟨w0.heap.size,0,none⟩),.agg #[.int .i64 pl,.bool pd,.bool pi,.bool pg,.bool psg],.int .i64 L,.int .i64 3000] w (Rq w0 l a cap N0 s j v w (chainR E l L pi pg RX)):=by
 have HC:=hid hc
 have HL:=hid (show l.length≤100000 by omega)
 have bj:=hid hl
 have hL:binL L:=by unfold binL;omega
 have HX:=hid hX
 have OX:=hid oX
 have HE:=hid hE
 have OE:=hid oE
 have HAT:=hid (ok_at oX)
 have b7:=hid hl3
 have HBL:=hid hL
 have cn:=hid h99
 have F:=hid hC
 have SX:=hid sX
 have cM:=hid hN0
 have bW:=hid hcat
 obtain⟨W,hW⟩:∃W,W=(w.alloc (.cells #[.int .i64 pl,.bool pd,.bool pi,.bool pg,.bool psg] 44)).alloc (.cells #[.slice none 0 0,.bool false] 95):=⟨_,rfl⟩
 have hB:Below w.heap.size w W:=by rw[hW];exact((Below.refl _ _).alloc (Nat.le_refl _) _).alloc (by simp) _
 have P0:=hid (show Mq w0.heap.size w.heap.size #[.int .i64 pl,.bool pd,.bool pi,.bool pg,.bool psg] 44 v W from Mq.of hst (by rw[hW];exact(Bk.new _ _ _).alloc _) (Nat.le_refl _))
 have R0:=hid (show Mq w0.heap.size (w.heap.size+1) #[.slice none 0 0,.bool false] 95 v W from Mq.of hst (by rw[hW];have:=Bk.new (w.alloc (.cells #[.int .i64 pl,.bool pd,.bool pi,.bool pg,.bool psg] 44)) #[.slice none 0 0,.bool false] 95;simpa using this) (Nat.le_succ _))
 have S0:=hid (hst.keep hB)
 have G0:=hid (show Gr (X0 w0.heap.size) v v w W from Gr.quiet hB)
 have HLT:=hid hst.lt
 have HBS:=hid hB.size
 have HJN:=hid hst.jn
 have HWS:=hid (show W.heap.size=w.heap.size+2 by rw[hW];simp)
 clear hB hst
 have hr:3≤L∧L≤10:=by unfold binL at hL;omega
 have HLR:=hid hr
 have cG:=hr.1
 have cF:=hr.2
 have hsd:∀op,opLevel op=L→(ps.sdS (opLevel op)).1=(ps.sdS L).1∧(ps.sdS (opLevel op)).2=rgt L:=fun op h=>⟨by rw[h],by rw[h];exact rgt_sides hL⟩
 have HSD:=hid hsd
 obtain⟨S1,bx⟩:∃S1,(ps.sdS L).1=S1:=⟨_,rfl⟩
 rw[bx]at HSD
 obtain⟨S2,ap⟩:∃S2,rgt L=S2:=⟨_,rfl⟩
 have bS:=hid ap
 rw[ap]at HSD
 clear hX oX hE oE hc hl hl3 hL h99 hN0 hcat sX hr hsd bx ap hC
 obtain⟨c1,c2,c3,c4⟩:=S0.c
 have m5:=P0.bk.c5
 have bn:=R0.bk.c2
 have bq:=R0.bk.f
 rw[hW]at c1 c2 c3 c4 m5 bn bq
 go_enter Tryz.func113,Tryz.ntmps113
 go_wp2_with fail
 rw[←hW]
 clear c1 c2 c3 c4 m5 bn bq hW
 refine(any_level L _ HBL.out).mono ?_
 rintro e cD ⟨⟨op,rfl,hop⟩,ax⟩
 have a7:=hid (S0.keep ax)
 have aH:=hid (P0.keep ax)
 have a6:=hid (R0.keep ax)
 have cw:=hid (G0.trans (Gr.quiet ax))
 clear ax
 have HOP:=hid hop
 clear hop
 have cr:=a7.c
 have cA:=aH.bk.c5
 have ch:=a6.bk.c2
 go_wp2_with fail
 clear cr cA ch
 refine(ps.spec_sides op _).mono ?_
 rw[(HSD.out op HOP.out).1,(HSD.out op HOP.out).2]
 rintro e ws ⟨rfl,rfl⟩
 have ap:S2=9:=by rw[←bS.out,F.out];rfl
 subst ap
 have bT:=a7.c
 have ci:=aH.bk.c5
 have c9:=a6.bk.c2
 go_wp2_with fail
 clear bT ci c9
 refine(part_any _ _ _ _ _ _ _).mono ?_
 rintro e cg ⟨rfl,ao⟩
 have aU:=hid (a7.keep ao)
 have br:=hid (aH.keep ao)
 have aC:=hid (a6.keep ao)
 have bR:=hid (cw.trans (Gr.quiet ao))
 clear ao
 have cq:=aU.c
 have bY:=br.bk.c5
 have c6:=aC.bk.c2
 go_wp2_with fail
 clear cq bY c6
 refine(HX.out v cg aU.out).mono ?_
 rintro e C ⟨T,aK,aN,aZ,rfl,s9,a0,t9,aS⟩
 have ba:=hid s9
 have bm:=hid (br.go a0)
 have aV:=hid (aC.go a0)
 have bN:=hid (bR.trans a0)
 have cy:=hid t9
 have aP:=hid aS
 obtain⟨a8,aM,rfl,bV⟩:=t9.lies
 clear s9 t9 a0 aS bV
 have HBX:=hid (show w.heap.size+1<_ from aC.bk.lt)
 have cE:=hid (show w.heap.size<C.heap.size from bm.bk.lt)
 have cc:=hid (show(w.heap.size+1)<C.heap.size from aV.bk.lt)
 obtain⟨a1,ai⟩:∃W,W=C.alloc (.cells #[.slice a8 aK.length aM,.bool aN] 95):=⟨_,rfl⟩
 have af:Below C.heap.size C a1:=by rw[ai];exact(Below.refl _ _).alloc (Nat.le_refl _) _
 have aL:=hid (show Mq w0.heap.size C.heap.size #[.slice a8 aK.length aM,.bool aN] 95 aZ a1 from Mq.of ba.out (by rw[ai];exact Bk.new _ _ _) (Nat.le_refl _))
 have cO:=hid (show a1.heap.size=C.heap.size+1 by rw[ai];simp)
 have aA:=hid (ba.keep af)
 have aB:=hid (bm.keep af)
 have aF:=hid (aV.keep af)
 have bo:=hid (cy.out.keep af)
 have bb:=hid (bN.trans (Gr.quiet af))
 clear af
 obtain⟨T,hT⟩:∃T,T=chainR E l L pi pg RX:=⟨_,rfl⟩
 have HT:=hid hT
 rw[←hT]
 have HREL:=hid (show RelCh M w0 l a cap N0 s j E L pl pd pi pg psg 3000 T v w (C.heap.size) (.int .i64 ((0:Nat):Int)) a1 from⟨0,atQ RX,bdQ RX,aZ,a8,aM,aK,aN,_,rfl,Nat.zero_le _,aA.out,bb.out,aB.out,aF.out,aL.out,bo.out,HBX.out,by
   rw[hT]
   have hq:=aP.out
   have ho:=OX.out
   have hs:=SX.out
   clear hT
   cases RX with
   |bad m=>exact .inl ⟨rfl,rfl,hq⟩
   |ok lv tg t m=>exact .inr ⟨rfl,lv,tg,t,l.length+1,hq,ho,rfl,by omega,(hs _ _ _ _ rfl).1,.inl ⟨rfl,(hs _ _ _ _ rfl).2⟩,ho.1⟩⟩)
 have HGX:=hid (show w.heap.size+1<C.heap.size from cc.out)
 have bf:=aA.c
 have aY:=aB.bk.c5
 have bc:=aF.bk.c2
 have bs:=aL.bk.c2
 rw[ai]at bf aY bc bs
 clear hT
 go_wp2
 rw[←ai]
 clear bf aY bc bs ai
 obtain⟨gX,hgX⟩:∃gX,gX=C.heap.size:=⟨_,rfl⟩
 rw[←hgX]at HREL HGX⊢
 clear hgX
 clear aB aF aL bo aA bb aP
 go_loopw [12] (fun n wr=>RelCh M w0 l a cap N0 s j E L pl pd pi pg psg 3000 T v w gX n wr) (fun n _=>3001-(intOf n).toNat)
 case atStart=>exact HREL.out
 case round=>
  obtain⟨K,m,bd,vr,aT,cT,tt,hh,B,rfl,hK,hs,hg,hP,hR,hXB,hT,hBB,hway⟩:=hrel
  have Sr:=hid hs
  have Gr':=hid hg
  have Pr:=hid hP
  have Rr:=hid hR
  have XBr:=hid hXB
  have Xr:=hid hT
  have HBB:=hid hBB
  clear hs hg hP hR hXB hT hBB
  have HIS:=hid (fun W2 (h2:Sq w0 l a cap N0 s m bd vr W2)=>is_any L ⟨pl,pd,pi,pg,psg⟩ W2 h2 HC.out HL.out HBL.out)
  rcases hway with ⟨rfl,hTT,hwk⟩|⟨rfl,lv,tg,t',gf,hgt,hok,hTT,hgf,hst,hlv,hjm⟩
  ·
   have HTT:=hid (HT.symm.trans hTT)
   have HWK:=hid hwk
   clear hTT hwk
   by_cases aE:K<3000
   case pos=>
    have bA:(K:Int)<3000:=by omega
    have ab:=Sr.c
    have ad:=Pr.bk.c5
    have ae:=Rr.bk.c2
    have Z:=Rr.bk.f
    have ac:=XBr.bk.c2
    go_wp2_with fail
    clear ab ad ae Z ac
    refine(HIS.out _ Sr.out).mono ?_
    rintro e bE ⟨rfl,o⟩
    have U:=hid (Sr.keep o)
    have aj:=hid (Pr.keep o)
    have A:=hid (Rr.keep o)
    have ah:=hid (XBr.keep o)
    have aq:=hid (Xr.keep o)
    have am:=hid (Gr'.trans (Gr.quiet o))
    clear o
    have al:=U.c
    have ay:=aj.bk.c5
    have au:=A.bk.c2
    have an:=A.bk.f
    have aw:=ah.bk.c2
    go_wp2
    clear al ay au an aw
    obtain⟨a9,a5⟩:=(A.bk.put2 (.slice aT tt.length cT) (.bool hh)).c2
    exact bodyPost_ret (v:= .agg #[.slice aT tt.length cT,.bool hh]) (by simp[results,Tryz.results113,go_sem,a9,a5]) rfl (by rw[HTT.out];exact rq_end HLT.out (show Sq w0 l a cap N0 s m true _ _ from U.out) am.out A.out aq.out (by exact Nat.le_succ _) (by exact HBB.out) (HWK.out))
   case neg=>
    have bA:¬(K:Int)<3000:=by omega
    clear aE
    have ab:=Sr.c
    have ad:=Pr.bk.c5
    have ae:=Rr.bk.c2
    have Z:=Rr.bk.f
    have ac:=XBr.bk.c2
    go_wp2
    clear ab ad ae Z ac
    obtain⟨bI,bK⟩:=(Rr.bk.put2 (.slice aT tt.length cT) (.bool hh)).c2
    exact bodyPost_ret (v:= .agg #[.slice aT tt.length cT,.bool hh]) (by simp[results,Tryz.results113,go_sem,bI,bK]) rfl (by rw[HTT.out];exact rq_end HLT.out (show Sq w0 l a cap N0 s m true _ _ from Sr.out) Gr'.out Rr.out Xr.out (by exact Nat.le_succ _) (by exact HBB.out) (HWK.out))
  ·
   have bJ:=hok.2.1
   have HGT:=hid hgt
   have HOK:=hid hok
   have HJM:=hid hjm
   have HGF:=hid hgf
   have HTE:=hid hTT
   have aE:K<3000:=by have:=b7.out;omega
   have bA:(K:Int)<3000:=by omega
   have hiso:=is_op HBL.out (cn.out m) (by rcases hlv with ⟨-,h⟩|⟨-,h,-⟩;exact .inl h;exact .inr ⟨h,by have:=F.out;omega⟩) hst
   clear hlv hst bJ aE
   obtain⟨c,hcc⟩:∃c,kd l m=c:=⟨_,rfl⟩
   have HCC:=hid hcc
   rw[hcc]at HIS hiso
   by_cases hop:isOp L pg c=true
   case neg=>
    have hop':isOp L pg c=false:=by simpa using hop
    rw[hop']at HIS hiso
    have HTT:=hid (HT.symm.trans (hTT.trans (go_stop (by rw[hcc];exact hiso) (by omega))))
    clear hop hop' hiso hgt hok hjm hgf hTT hcc
    have ab:=Sr.c
    have ad:=Pr.bk.c5
    have ae:=Rr.bk.c2
    have Z:=Rr.bk.f
    have ac:=XBr.bk.c2
    go_wp2_with fail
    clear ab ad ae Z ac
    refine(HIS.out _ Sr.out).mono ?_
    rintro e bE ⟨rfl,o⟩
    have U:=hid (Sr.keep o)
    have aj:=hid (Pr.keep o)
    have A:=hid (Rr.keep o)
    have ah:=hid (XBr.keep o)
    have aq:=hid (Xr.keep o)
    have am:=hid (Gr'.trans (Gr.quiet o))
    clear o
    have al:=U.c
    have ay:=aj.bk.c5
    have au:=A.bk.c2
    have an:=A.bk.f
    have aw:=ah.bk.c2
    go_wp2
    clear al ay au an aw
    obtain⟨a9,a5⟩:=(A.bk.put2 (.slice aT tt.length cT) (.bool hh)).c2
    exact bodyPost_ret (v:= .agg #[.slice aT tt.length cT,.bool hh]) (by simp[results,Tryz.results113,go_sem,a9,a5]) rfl (by rw[HTT.out];exact rq_end HLT.out (show Sq w0 l a cap N0 s m false _ _ from U.out) am.out A.out aq.out (by exact Nat.le_succ _) (by exact HBB.out) (HGT.out))
   case pos=>
    have HOP:=hid hop
    rw[hop]at HIS hiso
    have HGO:=hid (show goes (kd l m) lv tg (cp L pi pg)=true by rw[hcc];exact hiso)
    have HJL:=hid (show m≤l.length from hok.2.1)
    clear hop hiso hgt hok hjm hgf hTT
    have HBG:=hid (show begins (kd l m)=true by have h:=HOP.out;unfold isOp at h;rw[if_pos F.out]at h;rw[hcc];exact h)
    have q8:(L==8)=true:=by rw[F.out];rfl
    have q3:(L==3)=false:=by rw[F.out];rfl
    have q4:(L==4)=false:=by rw[F.out];rfl
    obtain⟨RY,hRY⟩:∃R,E (cp 9 pi pg) m=R:=⟨_,rfl⟩
    have HRY:=hid hRY
    have ORY:=hid (show Ok M l m RY by rw[←hRY];exact OE.out _ _ HJL.out)
    have HSTEP:=hid (show pe.step E l (kd l m) (cp L pi pg) t' m=over2 12 99 t' RY by rw[←hRY,F.out];exact bW.out F.out _ _ HBG.out)
    clear hcc hRY
    have ab:=Sr.c
    have ad:=Pr.bk.c5
    have ae:=Rr.bk.c2
    have Z:=Rr.bk.f
    have ac:=XBr.bk.c2
    go_wp2_with fail
    clear ab ad ae Z ac
    refine(HIS.out _ Sr.out).mono ?_
    rintro e bE ⟨rfl,o⟩
    have U:=hid (Sr.keep o)
    have aj:=hid (Pr.keep o)
    have A:=hid (Rr.keep o)
    have ah:=hid (XBr.keep o)
    have aq:=hid (Xr.keep o)
    have am:=hid (Gr'.trans (Gr.quiet o))
    clear o
    have al:=U.c
    have ay:=aj.bk.c5
    have au:=A.bk.c2
    have an:=A.bk.f
    have aw:=ah.bk.c2
    go_wp2_with fail
    clear al ay au an aw
    refine(part_any _ _ _ _ _ _ _).mono ?_
    rintro e cm ⟨rfl,aa⟩
    have aQ:=hid (U.keep aa)
    have b0:=hid (aj.keep aa)
    have b2:=hid (A.keep aa)
    have aG:=hid (ah.keep aa)
    have ct:=hid (aq.keep aa)
    have bP:=hid (am.trans (Gr.quiet aa))
    clear aa
    have bQ:=aQ.c
    have c0:=b0.bk.c5
    have bZ:=b2.bk.c2
    have cb:=aG.bk.c2
    have cf:=aG.bk.f
    go_wp2_with fail
    clear bQ c0 bZ cb cf
    refine(show Calls _ _ _ _ (Rq w0 l a cap N0 s m vr cm RY) by rw[←HRY.out];exact HE.out 9 pi pg false m _ _ (by decide) (by decide) (by have:=HJM.out;omega) aQ.out).mono ?_
    rintro e N ⟨T,y,bF,a2,rfl,s9,ak,t9,aW⟩
    have bu:=hid s9
    have bv:=hid (b0.go ak)
    have b4:=hid (b2.go ak)
    have b1:=hid (aG.go ak)
    have bO:=hid (ct.go ak)
    have cz:=hid (bP.trans ak)
    have cC:=hid t9
    have bh:=hid aW
    obtain⟨a3,az,rfl,cj⟩:=t9.lies
    clear s9 t9 ak aW cj
    have HWX:=hid (gt_wk1 HGT.out HOK.out)
    have HWY:=hid (gt_wk bh.out ORY.out)
    have HOY:=hid (ok_at ORY.out)
    have cK:=hid (show w.heap.size<N.heap.size from bv.bk.lt)
    have cJ:=hid (show(w.heap.size+1)<N.heap.size from b4.bk.lt)
    have cI:=hid (show gX<N.heap.size from b1.bk.lt)
    obtain⟨V,ag⟩:∃W,W=N.alloc (.cells #[.slice a3 y.length az,.bool bF] 95):=⟨_,rfl⟩
    have O:Below N.heap.size N V:=by rw[ag];exact(Below.refl _ _).alloc (Nat.le_refl _) _
    have bt:=hid (show Mq w0.heap.size N.heap.size #[.slice a3 y.length az,.bool bF] 95 a2 V from Mq.of bu.out (by rw[ag];exact Bk.new _ _ _) (Nat.le_refl _))
    have cd:=hid (show V.heap.size=N.heap.size+1 by rw[ag];simp)
    have aI:=hid (bu.keep O)
    have aO:=hid (bv.keep O)
    have bg:=hid (b4.keep O)
    have a4:=hid (b1.keep O)
    have b5:=hid (bO.keep O)
    have be:=hid (cC.out.keep O)
    have c8:=hid (cz.trans (Gr.quiet O))
    clear O
    have bw:=aI.c
    have b8:=aO.bk.c5
    have bi:=bg.bk.c2
    have b6:=a4.bk.c2
    have bG:=a4.bk.f
    have b3:=bt.bk.c2
    rw[ag]at bw b8 bi b6 bG b3
    go_wp2_with fail
    rw[←ag]
    clear bw b8 bi b6 bG b3 ag
    have bC:=b5.lies'
    have b9:=be.lies'
    refine(over2_any cd.out 12 99 ⟨#[]⟩ tt y bC b9 (wk_mono HWX.out (by have:=bj.out;have:=HJL.out;omega)) (wk_mono HWY.out (by have:=bj.out;have:=HOY.out;omega))).mono ?_
    rintro e aD ⟨T,z,r,rfl,hz,hp,aX,hr⟩
    have u2110:=Tq.of (aI.alloc (.cells #[.slice aT tt.length cT,.slice a3 y.length az] 26)) hp hr
    rw[hz]at u2110
    have bL:=hid (show(V.alloc (.cells #[.slice aT tt.length cT,.slice a3 y.length az] 26)).heap.size=V.heap.size+1 by simp)
    rw[bL.out]at u2110
    have cB:=hid u2110
    have G:Below V.heap.size V aD:=((Below.refl _ _).alloc (Nat.le_refl _) _).trans (aX.mono (by simp))
    have aR:=hid (aI.keep G)
    have bH:=hid (aO.keep G)
    have bl:=hid (bg.keep G)
    have ar:=hid (a4.keep G)
    have bX:=hid (bt.keep G)
    have cL:=hid (b5.keep G)
    have cQ:=hid (be.keep G)
    have cl:=hid (c8.trans (Gr.quiet G))
    obtain⟨J,D,rfl,-⟩:=u2110.lies
    clear u2110 hz hp hr aX G bC b9
    have HXL:=hid (show gX<_ from a4.bk.lt)
    have HRL:=hid (show w.heap.size+1<_ from Nat.lt_trans HGX.out HXL.out)
    have c7:=aR.c
    have co:=bH.bk.c5
    have ck:=bl.bk.c2
    have ca:=ar.bk.c2
    have cx:=ar.bk.f
    have bU:=bX.bk.c2
    go_wp2
    clear c7 co ck ca cx bU
    go_roundw
    case rel=>
     obtain⟨aJ,Q⟩:∃W,W=((aD.setCell ⟨gX,0,none⟩ (.slice J (makeT (nd0 12 99 ⟨#[]⟩) [tt,y]).length D)).setCell ⟨gX,1,none⟩ (.bool false)):=⟨_,rfl⟩
     have bM:=hid (by rw[Q];exact((aR.out).mset ar.out 0 _).mset (ar.set 0 (.slice J (makeT (nd0 12 99 ⟨#[]⟩) [tt,y]).length D)) 1 _:Sq w0 l a cap N0 s (atQ RY) (bdQ RY) a2 aJ)
     have bB:=hid ((bH.oth (k:=gX) (by have:=HGX.out;omega) 0 (.slice J (makeT (nd0 12 99 ⟨#[]⟩) [tt,y]).length D)).oth (k:=gX) (by have:=HGX.out;omega) 1 (.bool false))
     rw[←Q]at bB
     have bz:=hid ((bl.oth (k:=gX) (by have:=HGX.out;omega) 0 (.slice J (makeT (nd0 12 99 ⟨#[]⟩) [tt,y]).length D)).oth (k:=gX) (by have:=HGX.out;omega) 1 (.bool false))
     rw[←Q]at bz
     have ce:=hid (by rw[Q];exact((ar.set 0 (.slice J (makeT (nd0 12 99 ⟨#[]⟩) [tt,y]).length D)).set 1 (.bool false)):Mq w0.heap.size gX #[.slice J (makeT (nd0 12 99 ⟨#[]⟩) [tt,y]).length D,.bool false] 95 a2 aJ)
     have bp:=hid ((cB.out.low (g:=gX) (Nat.lt_succ_of_lt HXL.out) 0 (.slice J (makeT (nd0 12 99 ⟨#[]⟩) [tt,y]).length D)).low (g:=gX) (Nat.lt_succ_of_lt HXL.out) 1 (.bool false))
     rw[←Q]at bp
     have bD:=hid ((cl.set (g:=gX) (.inr (by have:=HGX.out;omega)) 0 (.slice J (makeT (nd0 12 99 ⟨#[]⟩) [tt,y]).length D)).set (g:=gX) (.inr (by have:=HGX.out;omega)) 1 (.bool false))
     rw[←Q]at bD
     have cH:=hid (show aJ.heap.size=aD.heap.size by rw[Q];simp)
     rw[←Q]
     exact⟨K+1,atQ RY,bdQ RY,a2,J,D,_,false,_,by go_num,by omega,bM.out,bD.out,bB.out,bz.out,ce.out,bp.out,Nat.lt_succ_of_lt HRL.out,way_next HBL.out (by rw[F.out];rfl) HGT.out HOK.out HTE.out HGF.out HGO.out HSTEP.out (Nat.le_refl _) bh.out ORY.out HJM.out (by exact .inr rfl) b7.out⟩
    case measure=>simp[intOf];omega
end
end Go.Proofs.YtebjmdpkobhcbaaGreatDoor.qs
