/- A part. -/
import Derived.Test.YtebjmdpkobhcbaaGreatDoorRRa
namespace Go.Proofs.YtebjmdpkobhcbaaGreatDoor.qs
open Lib (hid)
open Go.ChangeShapes Go.WideShapes Go.ChangeAt Go.RowKit
open tk (Tk)
open nd (Nd PT KidV makeT)
open ps (Ps posOk)
open pe
open rt (isLval)
open operand (begins)
open lv (opLevel levelOf has)
open pr (Bk Gr X0 below_drewN eq_facts ne_facts fld_k fld_s)
set_option linter.unusedVariables false
set_option linter.unusedSimpArgs false
set_option maxRecDepth 20000
section
variable {w0:World} {l:List Tk} {a:Option Addr} {cap:Nat} {N0:List Tk} {s j:Nat} {v:Value} {E:Ps->Nat->R} {M:Nat}
set_option maxHeartbeats 12800000 in
theorem chain_one(pl:Int)(pd pi pg psg:Bool)(w:World)(hst:Sq w0 l a cap N0 s j false v w)(hc:tk.Lies w0.heap.size w0 a l)(hl:l.length<=6000)(hl3:l.length<=3000)(L:Int)(hC:L=6\/L=7)(h99:∀m,¬kd l m=99)(hN0:N0.length+l.length<=200000)(hcat:L=8->∀t m,begins (kd l m)=true->pe.step E l (kd l m) (cp 8 pi pg) t m=over2 12 99 t (E (cp 9 pi pg) m))(RX:R)(hX:∀(v:Value) (w:World),Sq w0 l a cap N0 s j false v w->Calls Tryz.prog 63 #[.pointer (some ⟨w0.heap.size,0,none⟩),.agg #[.int .i64 (L+1),.bool false,.bool pi,.bool pg,.bool false]] w (Rq w0 l a cap N0 s j v w RX))(oX:Ok M l j RX)(sX:∀lv tg t m,RX= .ok lv tg t m->goes (kd l m) lv tg (cp (L+1) pi pg)=false/\L+1<=lv)(hE:CallS w0 l a cap N0 s E (j+1))(oE:∀p i,i<=l.length->Ok M l i (E p i)):
  Calls Tryz.prog 113 #[.pointer (some ⟨w0.heap.size,0,none⟩),.agg #[.int .i64 pl,.bool pd,.bool pi,.bool pg,.bool psg],.int .i64 L,.int .i64 1] w (Rq w0 l a cap N0 s j v w (chainR E l L pi pg RX)):=by
 have HC:=hid hc
 have HL:=hid (show l.length<=100000 by omega)
 have b6:=hid hl
 have hL:binL L:=by unfold binL;omega
 have HX:=hid hX
 have OX:=hid oX
 have HE:=hid hE
 have OE:=hid oE
 have HAT:=hid (ok_at oX)
 have bI:=hid hl3
 have HBL:=hid hL
 have db:=hid h99
 have aU:=hid hC
 have SX:=hid sX
 have di:=hid hN0
 have dt:=hid hcat
 obtain⟨W,hW⟩:∃W,W=(w.alloc (.cells #[.int .i64 pl,.bool pd,.bool pi,.bool pg,.bool psg] 44)).alloc (.cells #[.slice none 0 0,.bool false] 95):=⟨_,rfl⟩
 have hB:Below w.heap.size w W:=by rw[hW];exact((Below.refl _ _).alloc (Nat.le_refl _) _).alloc (by simp) _
 have P0:=hid (show Mq w0.heap.size w.heap.size #[.int .i64 pl,.bool pd,.bool pi,.bool pg,.bool psg] 44 v W from Mq.of hst (by rw[hW];exact(Bk.new _ _ _).alloc _) (Nat.le_refl _))
 have R0:=hid (show Mq w0.heap.size (w.heap.size+1) #[.slice none 0 0,.bool false] 95 v W from Mq.of hst (by rw[hW];have:=Bk.new (w.alloc (.cells #[.int .i64 pl,.bool pd,.bool pi,.bool pg,.bool psg] 44)) #[.slice none 0 0,.bool false] 95;simpa using this) (Nat.le_succ _))
 have S0:=hid (hst.keep hB)
 have G0:=hid (show Gr (X0 w0.heap.size) v v w W from Gr.quiet hB)
 have HLT:=hid hst.lt
 have HBS:=hid hB.size
 have HJN:=hid hst.jn
 have HWS:=hid (show W.heap.size=w.heap.size+2 by rw[hW];simp)
 clear hB hst
 have hr:3<=L/\L<=10:=by unfold binL at hL;omega
 have HLR:=hid hr
 have dk:=hr.1
 have dh:=hr.2
 have hsd:∀op,opLevel op=L->(ps.sdS (opLevel op)).1=(ps.sdS L).1/\(ps.sdS (opLevel op)).2=rgt L:=fun op h=>⟨by rw[h],by rw[h];exact rgt_sides hL⟩
 have HSD:=hid hsd
 obtain⟨S1,aQ⟩:∃S1,(ps.sdS L).1=S1:=⟨_,rfl⟩
 rw[aQ]at HSD
 obtain⟨S2,ar⟩:∃S2,rgt L=S2:=⟨_,rfl⟩
 have cz:=hid ar
 rw[ar]at HSD
 have hleft:S1=L+1:=by rcases hC with rfl|rfl<;>exact aQ.symm
 clear hX oX hE oE hc hl hl3 hL h99 hN0 hcat sX hr hsd aQ ar hC
 obtain⟨c1,c2,c3,c4⟩:=S0.c
 have m5:=P0.bk.c5
 have bR:=R0.bk.c2
 have bc:=R0.bk.f
 rw[hW]at c1 c2 c3 c4 m5 bR bc
 go_enter Tryz.func113,Tryz.ntmps113
 go_wp2_with fail
 rw[<-hW]
 clear c1 c2 c3 c4 m5 bR bc hW
 refine(any_level L _ HBL.out).mono ?_
 rintro e dr ⟨⟨op,rfl,hop⟩,ao⟩
 have aH:=hid (S0.keep ao)
 have a9:=hid (P0.keep ao)
 have a7:=hid (R0.keep ao)
 have c8:=hid (G0.trans (Gr.quiet ao))
 clear ao
 have HOP:=hid hop
 clear hop
 have dg:=aH.c
 have de:=a9.bk.c5
 have c0:=a7.bk.c2
 go_wp2_with fail
 clear dg de c0
 refine(ps.spec_sides op _).mono ?_
 rw[(HSD.out op HOP.out).1,(HSD.out op HOP.out).2]
 rintro e ws ⟨rfl,rfl⟩
 subst hleft
 have ce:=aH.c
 have cq:=a9.bk.c5
 have cd:=a7.bk.c2
 go_wp2_with fail
 clear ce cq cd
 refine(part_any _ _ _ _ _ _ _).mono ?_
 rintro e df ⟨rfl,aw⟩
 have bB:=hid (aH.keep aw)
 have bQ:=hid (a9.keep aw)
 have aM:=hid (a7.keep aw)
 have cX:=hid (c8.trans (Gr.quiet aw))
 clear aw
 have cO:=bB.c
 have cn:=bQ.bk.c5
 have cA:=aM.bk.c2
 go_wp2_with fail
 clear cO cn cA
 refine(HX.out v df bB.out).mono ?_
 rintro e C ⟨T,aR,aI,bs,rfl,s9,a4,t9,bn⟩
 have br:=hid s9
 have bU:=hid (bQ.go a4)
 have ba:=hid (aM.go a4)
 have cF:=hid (cX.trans a4)
 have cw:=hid t9
 have cb:=hid bn
 obtain⟨aD,aL,rfl,cS⟩:=t9.lies
 clear s9 t9 a4 bn cS
 have HBX:=hid (show w.heap.size+1<_ from aM.bk.lt)
 have dp:=hid (show w.heap.size<C.heap.size from bU.bk.lt)
 have cW:=hid (show(w.heap.size+1)<C.heap.size from ba.bk.lt)
 obtain⟨a0,ad⟩:∃W,W=C.alloc (.cells #[.slice aD aR.length aL,.bool aI] 95):=⟨_,rfl⟩
 have ah:Below C.heap.size C a0:=by rw[ad];exact(Below.refl _ _).alloc (Nat.le_refl _) _
 have aG:=hid (show Mq w0.heap.size C.heap.size #[.slice aD aR.length aL,.bool aI] 95 bs a0 from Mq.of br.out (by rw[ad];exact Bk.new _ _ _) (Nat.le_refl _))
 have dj:=hid (show a0.heap.size=C.heap.size+1 by rw[ad];simp)
 have aJ:=hid (br.keep ah)
 have aN:=hid (bU.keep ah)
 have aB:=hid (ba.keep ah)
 have bG:=hid (cw.out.keep ah)
 have bP:=hid (cF.trans (Gr.quiet ah))
 clear ah
 obtain⟨T,hT⟩:∃T,T=chainR E l L pi pg RX:=⟨_,rfl⟩
 have HT:=hid hT
 rw[<-hT]
 have HREL:=hid (show RelCh M w0 l a cap N0 s j E L pl pd pi pg psg 1 T v w (C.heap.size) (.int .i64 ((0:Nat):Int)) a0 from⟨0,atQ RX,bdQ RX,bs,aD,aL,aR,aI,_,rfl,Nat.zero_le _,aJ.out,bP.out,aN.out,aB.out,aG.out,bG.out,HBX.out,by
   rw[hT]
   have hq:=cb.out
   have ho:=OX.out
   have hs:=SX.out
   clear hT
   cases RX with
   |bad m=>exact .inl ⟨rfl,rfl,hq⟩
   |ok lv tg t m=>exact .inr ⟨rfl,lv,tg,t,l.length+1,hq,ho,rfl,by omega,(hs _ _ _ _ rfl).1,.inl ⟨rfl,(hs _ _ _ _ rfl).2⟩,ho.1⟩⟩)
 have HGX:=hid (show w.heap.size+1<C.heap.size from cW.out)
 have bp:=aJ.c
 have bO:=aN.bk.c5
 have bT:=aB.bk.c2
 have bJ:=aG.bk.c2
 rw[ad]at bp bO bT bJ
 clear hT
 go_wp2
 rw[<-ad]
 clear bp bO bT bJ ad
 obtain⟨gX,hgX⟩:∃gX,gX=C.heap.size:=⟨_,rfl⟩
 rw[<-hgX]at HREL HGX|-
 clear hgX
 clear aN aB aG bG aJ bP cb
 go_loopw [12] (fun n wr=>RelCh M w0 l a cap N0 s j E L pl pd pi pg psg 1 T v w gX n wr) (fun n _=>3001-(intOf n).toNat)
 case atStart=>exact HREL.out
 case round=>
  obtain⟨K,m,bd,vr,aT,cT,tt,hh,B,rfl,hK,hs,hg,hP,hR,hXB,hT,hBB,hway⟩:=hrel
  have Sr:=hid hs
  have Gr':=hid hg
  have Pr:=hid hP
  have Rr:=hid hR
  have XBr:=hid hXB
  have Xr:=hid hT
  have HBB:=hid hBB
  clear hs hg hP hR hXB hT hBB
  have HIS:=hid (fun W2 (h2:Sq w0 l a cap N0 s m bd vr W2)=>is_any L ⟨pl,pd,pi,pg,psg⟩ W2 h2 HC.out HL.out HBL.out)
  rcases hway with ⟨rfl,hTT,hwk⟩|⟨rfl,lv,tg,t',gf,hgt,hok,hTT,hgf,hst,hlv,hjm⟩
  ·
   have HTT:=hid (HT.symm.trans hTT)
   have HWK:=hid hwk
   clear hTT hwk
   by_cases hk0:K=0
   case pos=>
    subst hk0
    have aP:((0:Nat):Int)<1:=by decide
    have J:=Sr.c
    have H:=Pr.bk.c5
    have O:=Rr.bk.c2
    have F:=Rr.bk.f
    have Q:=XBr.bk.c2
    go_wp2_with fail
    clear J H O F Q
    refine(HIS.out _ Sr.out).mono ?_
    rintro e b1 ⟨rfl,o⟩
    have N:=hid (Sr.keep o)
    have ai:=hid (Pr.keep o)
    have A:=hid (Rr.keep o)
    have ae:=hid (XBr.keep o)
    have an:=hid (Xr.keep o)
    have ay:=hid (Gr'.trans (Gr.quiet o))
    clear o
    have au:=N.c
    have ak:=ai.bk.c5
    have ap:=A.bk.c2
    have ax:=A.bk.f
    have aq:=ae.bk.c2
    go_wp2
    clear au ak ap ax aq
    obtain⟨a6,aK⟩:=(A.bk.put2 (.slice aT tt.length cT) (.bool hh)).c2
    exact bodyPost_ret (v:= .agg #[.slice aT tt.length cT,.bool hh]) (by simp[results,Tryz.results113,go_sem,a6,aK]) rfl (by rw[HTT.out];exact rq_end HLT.out (show Sq w0 l a cap N0 s m true _ _ from N.out) ay.out A.out an.out (by exact Nat.le_succ _) (by exact HBB.out) (HWK.out))
   case neg=>
    have aP:¬(K:Int)<1:=by omega
    clear hk0
    have J:=Sr.c
    have H:=Pr.bk.c5
    have O:=Rr.bk.c2
    have F:=Rr.bk.f
    have Q:=XBr.bk.c2
    go_wp2
    clear J H O F Q
    obtain⟨aE,aF⟩:=(Rr.bk.put2 (.slice aT tt.length cT) (.bool hh)).c2
    exact bodyPost_ret (v:= .agg #[.slice aT tt.length cT,.bool hh]) (by simp[results,Tryz.results113,go_sem,aE,aF]) rfl (by rw[HTT.out];exact rq_end HLT.out (show Sq w0 l a cap N0 s m true _ _ from Sr.out) Gr'.out Rr.out Xr.out (by exact Nat.le_succ _) (by exact HBB.out) (HWK.out))
  ·
   have bl:=hok.2.1
   have HGT:=hid hgt
   have HOK:=hid hok
   have HJM:=hid hjm
   have HGF:=hid hgf
   have HTE:=hid hTT
   by_cases hk0:K=0
   case neg=>
    obtain⟨-,rfl,rfl⟩:0<K/\lv=L/\tg=false:=by rcases hlv with ⟨h,-⟩|h;exact absurd h hk0;exact h
    have HTT:=hid (HT.symm.trans (hTT.trans (go_stop (no_same (by have:=aU.out;omega)) (by omega))))
    have aP:¬(K:Int)<1:=by omega
    clear hk0 hlv hgt hok hjm hgf hTT hst bl
    have J:=Sr.c
    have H:=Pr.bk.c5
    have O:=Rr.bk.c2
    have F:=Rr.bk.f
    have Q:=XBr.bk.c2
    go_wp2
    clear J H O F Q
    obtain⟨aE,aF⟩:=(Rr.bk.put2 (.slice aT tt.length cT) (.bool hh)).c2
    exact bodyPost_ret (v:= .agg #[.slice aT tt.length cT,.bool hh]) (by simp[results,Tryz.results113,go_sem,aE,aF]) rfl (by rw[HTT.out];exact rq_end HLT.out (show Sq w0 l a cap N0 s m false _ _ from Sr.out) Gr'.out Rr.out Xr.out (by exact Nat.le_succ _) (by exact HBB.out) (HGT.out))
   case pos=>
    subst hk0
    have aP:((0:Nat):Int)<1:=by decide
    have bF:L+1<=lv:=by rcases hlv with ⟨-,h⟩|⟨h,-⟩;exact h;cases h
    have hiso:=is_op HBL.out (db.out m) (.inl bF) hst
    clear hlv bF hst bl
    obtain⟨c,hcc⟩:∃c,kd l m=c:=⟨_,rfl⟩
    have HCC:=hid hcc
    rw[hcc]at HIS hiso
    by_cases hop:isOp L pg c=true
    case neg=>
     have hop':isOp L pg c=false:=by simpa using hop
     rw[hop']at HIS hiso
     have HTT:=hid (HT.symm.trans (hTT.trans (go_stop (by rw[hcc];exact hiso) (by omega))))
     clear hop hop' hiso hgt hok hjm hgf hTT hcc
     have J:=Sr.c
     have H:=Pr.bk.c5
     have O:=Rr.bk.c2
     have F:=Rr.bk.f
     have Q:=XBr.bk.c2
     go_wp2_with fail
     clear J H O F Q
     refine(HIS.out _ Sr.out).mono ?_
     rintro e b1 ⟨rfl,o⟩
     have N:=hid (Sr.keep o)
     have ai:=hid (Pr.keep o)
     have A:=hid (Rr.keep o)
     have ae:=hid (XBr.keep o)
     have an:=hid (Xr.keep o)
     have ay:=hid (Gr'.trans (Gr.quiet o))
     clear o
     have au:=N.c
     have ak:=ai.bk.c5
     have ap:=A.bk.c2
     have ax:=A.bk.f
     have aq:=ae.bk.c2
     go_wp2
     clear au ak ap ax aq
     obtain⟨a6,aK⟩:=(A.bk.put2 (.slice aT tt.length cT) (.bool hh)).c2
     exact bodyPost_ret (v:= .agg #[.slice aT tt.length cT,.bool hh]) (by simp[results,Tryz.results113,go_sem,a6,aK]) rfl (by rw[HTT.out];exact rq_end HLT.out (show Sq w0 l a cap N0 s m false _ _ from N.out) ay.out A.out an.out (by exact Nat.le_succ _) (by exact HBB.out) (HGT.out))
    case pos=>
     have HOP:=hid hop
     rw[hop]at HIS hiso
     have HGO:=hid (show goes (kd l m) lv tg (cp L pi pg)=true by rw[hcc];exact hiso)
     have HJL:=hid (show m<=l.length from hok.2.1)
     clear hop hiso hgt hok hjm hgf hTT
     have h8:¬L=8:=by have:=aU.out;omega
     obtain⟨hk_0,hk_2,hk_l⟩:=op_kind HBL.out h8 HOP.out
     have HKL:=hid hk_l
     have HBH:=hid (behind_op (l:=l) (m:=m) HBL.out h8 HOP.out)
     have HML:=hid (kd_lt (l:=l) (i:=m) (by rw[hcc];exact hk_0))
     have HNX:=hid (show¬kd l m=2 by rw[hcc];exact hk_2)
     have q8:(L==8)=false:=by rw[beq_eq_false_iff_ne];exact h8
     have HK:=hid (fun W2 (h2:Sq w0 l a cap N0 s m false vr W2)=>kind_any W2 h2 HC.out HL.out)
     rw[hcc]at HK
     have cB:=hid (show pe.step E l (kd l m) (cp L pi pg) t' m=over2 12 c t' (E (cp (rgt L) pi pg) (behind l c m)) by rw[hcc];exact step_op (by have:=HLR.out;omega) h8 HOP.out)
     have hmb:m<=3000:=by have:=HJL.out;have:=bI.out;omega
     clear hk_0 hk_2 hk_l hcc
     have HRG:=hid (rgt_range HBL.out)
     have ar:=cz.out
     subst ar
     have bi:¬(L=3\/L=4):=by have:=aU.out;omega
     have c9:=hid (show behind l c m=(m+1) by rw[HBH.out];exact if_neg bi)
     have a5:=hid (show m<(m+1)/\(m+1)<=l.length by have:=HML.out;skip;omega)
     obtain⟨RY,hRY⟩:∃R,E (cp (rgt L) pi pg) (m+1)=R:=⟨_,rfl⟩
     have HRY:=hid hRY
     have ORY:=hid (show Ok M l (m+1) RY by rw[<-hRY];exact OE.out _ _ a5.out.2)
     have HSTEP:=hid (show pe.step E l (kd l m) (cp L pi pg) t' m=over2 12 c t' RY by rw[cB.out,c9.out,hRY])
     clear hRY
     have q3:(L==3)=false:=by rw[beq_eq_false_iff_ne];omega
     have q4:(L==4)=false:=by rw[beq_eq_false_iff_ne];omega
     clear bi
     have J:=Sr.c
     have H:=Pr.bk.c5
     have O:=Rr.bk.c2
     have F:=Rr.bk.f
     have Q:=XBr.bk.c2
     go_wp2_with fail
     clear J H O F Q
     refine(HIS.out _ Sr.out).mono ?_
     rintro e b1 ⟨rfl,o⟩
     have N:=hid (Sr.keep o)
     have ai:=hid (Pr.keep o)
     have A:=hid (Rr.keep o)
     have ae:=hid (XBr.keep o)
     have an:=hid (Xr.keep o)
     have ay:=hid (Gr'.trans (Gr.quiet o))
     clear o
     have au:=N.c
     have ak:=ai.bk.c5
     have ap:=A.bk.c2
     have ax:=A.bk.f
     have aq:=ae.bk.c2
     go_wp2_with fail
     clear au ak ap ax aq
     refine(HK.out _ N.out).mono ?_
     rintro e be ⟨rfl,aa⟩
     have aO:=hid (N.keep aa)
     have bq:=hid (ai.keep aa)
     have aV:=hid (A.keep aa)
     have b7:=hid (ae.keep aa)
     have cy:=hid (an.keep aa)
     have cC:=hid (ay.trans (Gr.quiet aa))
     clear aa
     have cc:=aO.c
     have cG:=bq.bk.c5
     have ck:=aV.bk.c2
     have dc:=b7.bk.c2
     have cK:=aO.f
     obtain⟨bN,al⟩:∃W,W=be.setCell ⟨w0.heap.size,1,none⟩ (.int .i64 ((m:Int)+1)):=⟨_,rfl⟩
     have bX:=hid (show Sq w0 l a cap N0 s (m+1) false vr bN by rw[al];exact aO.next HML.out HNX.out)
     have af:Gr (X0 w0.heap.size) vr vr be bN:=by rw[al];exact Gr.box rfl 1 _
     have bA:=hid (bq.go af)
     have bw:=hid (aV.go af)
     have bv:=hid (b7.go af)
     have cf:=hid (cy.go af)
     have cg:=hid (cC.trans af)
     clear af
     have aZ:=bX.c
     have bY:=bA.bk.c5
     have b8:=bw.bk.c2
     have aX:=bv.bk.c2
     rw[al]at aZ bY b8 aX
     go_wp2_with fail
     rw[<-al]
     clear cc cG ck dc cK aZ bY b8 aX al
     refine(part_any _ _ _ _ _ _ _).mono ?_
     rintro e c6 ⟨rfl,ab⟩
     have bu:=hid (bX.keep ab)
     have b0:=hid (bA.keep ab)
     have b5:=hid (bw.keep ab)
     have aA:=hid (bv.keep ab)
     have cV:=hid (cf.keep ab)
     have cU:=hid (cg.trans (Gr.quiet ab))
     clear ab
     have cL:=bu.c
     have cM:=b0.bk.c5
     have co:=b5.bk.c2
     have c7:=aA.bk.c2
     have ct:=aA.bk.f
     go_wp2_with fail
     clear cL cM co c7 ct
     refine(show Calls _ _ _ _ (Rq w0 l a cap N0 s (m+1) vr c6 RY) by rw[<-HRY.out];exact HE.out _ pi pg false (m+1) _ _ (by have:=HRG.out;omega) (by have:=HRG.out;omega) (by have:=a5.out;have:=HJM.out;omega) bu.out).mono ?_
     rintro e Z ⟨T,y,bK,az,rfl,s9,ag,t9,bL⟩
     have aY:=hid s9
     have bt:=hid (b0.go ag)
     have bV:=hid (b5.go ag)
     have bZ:=hid (aA.go ag)
     have cR:=hid (cV.go ag)
     have cr:=hid (cU.trans ag)
     have cx:=hid t9
     have bo:=hid bL
     obtain⟨a3,a1,rfl,cE⟩:=t9.lies
     clear s9 t9 ag bL cE
     have HWX:=hid (gt_wk1 HGT.out HOK.out)
     have HWY:=hid (gt_wk bo.out ORY.out)
     have HOY:=hid (ok_at ORY.out)
     have du:=hid (show w.heap.size<Z.heap.size from bt.bk.lt)
     have dl:=hid (show(w.heap.size+1)<Z.heap.size from bV.bk.lt)
     have ds:=hid (show gX<Z.heap.size from bZ.bk.lt)
     obtain⟨ac,aj⟩:∃W,W=Z.alloc (.cells #[.slice a3 y.length a1,.bool bK] 95):=⟨_,rfl⟩
     have V:Below Z.heap.size Z ac:=by rw[aj];exact(Below.refl _ _).alloc (Nat.le_refl _) _
     have bg:=hid (show Mq w0.heap.size Z.heap.size #[.slice a3 y.length a1,.bool bK] 95 az ac from Mq.of aY.out (by rw[aj];exact Bk.new _ _ _) (Nat.le_refl _))
     have cm:=hid (show ac.heap.size=Z.heap.size+1 by rw[aj];simp)
     have aS:=hid (aY.keep V)
     have bb:=hid (bt.keep V)
     have aW:=hid (bV.keep V)
     have a2:=hid (bZ.keep V)
     have bH:=hid (cR.keep V)
     have ca:=hid (cx.out.keep V)
     have cI:=hid (cr.trans (Gr.quiet V))
     clear V
     have bh:=aS.c
     have bW:=bb.bk.c5
     have bx:=aW.bk.c2
     have bz:=a2.bk.c2
     have bm:=a2.bk.f
     have bC:=bg.bk.c2
     rw[aj]at bh bW bx bz bm bC
     go_wp2_with fail
     rw[<-aj]
     clear bh bW bx bz bm bC aj
     have b9:=bH.lies'
     have bf:=ca.lies'
     refine(over2_any cm.out 12 c ⟨#[]⟩ tt y b9 bf (wk_mono HWX.out (by have:=b6.out;have:=HJL.out;omega)) (wk_mono HWY.out (by have:=b6.out;have:=HOY.out;omega))).mono ?_
     rintro e aC ⟨T,z,r,rfl,hz,hp,bD,hr⟩
     have u2560:=Tq.of (aS.alloc (.cells #[.slice aT tt.length cT,.slice a3 y.length a1] 26)) hp hr
     rw[hz]at u2560
     have dd:=hid (show(ac.alloc (.cells #[.slice aT tt.length cT,.slice a3 y.length a1] 26)).heap.size=ac.heap.size+1 by simp)
     rw[dd.out]at u2560
     have cQ:=hid u2560
     have P:Below ac.heap.size ac aC:=((Below.refl _ _).alloc (Nat.le_refl _) _).trans (bD.mono (by simp))
     have bM:=hid (aS.keep P)
     have b4:=hid (bb.keep P)
     have bE:=hid (aW.keep P)
     have am:=hid (a2.keep P)
     have cZ:=hid (bg.keep P)
     have dq:=hid (bH.keep P)
     have dm:=hid (ca.keep P)
     have cl:=hid (cI.trans (Gr.quiet P))
     obtain⟨D,G,rfl,-⟩:=u2560.lies
     clear u2560 hz hp hr bD P b9 bf
     have HXL:=hid (show gX<_ from a2.bk.lt)
     have HRL:=hid (show w.heap.size+1<_ from Nat.lt_trans HGX.out HXL.out)
     have cj:=bM.c
     have ci:=b4.bk.c5
     have cH:=bE.bk.c2
     have cJ:=am.bk.c2
     have cD:=am.bk.f
     have da:=cZ.bk.c2
     go_wp2
     clear cj ci cH cJ cD da
     go_roundw
     case rel=>
      obtain⟨a8,U⟩:∃W,W=((aC.setCell ⟨gX,0,none⟩ (.slice D (makeT (nd0 12 c ⟨#[]⟩) [tt,y]).length G)).setCell ⟨gX,1,none⟩ (.bool false)):=⟨_,rfl⟩
      have ch:=hid (by rw[U];exact((bM.out).mset am.out 0 _).mset (am.set 0 (.slice D (makeT (nd0 12 c ⟨#[]⟩) [tt,y]).length G)) 1 _:Sq w0 l a cap N0 s (atQ RY) (bdQ RY) az a8)
      have b2:=hid ((b4.oth (k:=gX) (by have:=HGX.out;omega) 0 (.slice D (makeT (nd0 12 c ⟨#[]⟩) [tt,y]).length G)).oth (k:=gX) (by have:=HGX.out;omega) 1 (.bool false))
      rw[<-U]at b2
      have bj:=hid ((bE.oth (k:=gX) (by have:=HGX.out;omega) 0 (.slice D (makeT (nd0 12 c ⟨#[]⟩) [tt,y]).length G)).oth (k:=gX) (by have:=HGX.out;omega) 1 (.bool false))
      rw[<-U]at bj
      have cY:=hid (by rw[U];exact((am.set 0 (.slice D (makeT (nd0 12 c ⟨#[]⟩) [tt,y]).length G)).set 1 (.bool false)):Mq w0.heap.size gX #[.slice D (makeT (nd0 12 c ⟨#[]⟩) [tt,y]).length G,.bool false] 95 az a8)
      have bS:=hid ((cQ.out.low (g:=gX) (Nat.lt_succ_of_lt HXL.out) 0 (.slice D (makeT (nd0 12 c ⟨#[]⟩) [tt,y]).length G)).low (g:=gX) (Nat.lt_succ_of_lt HXL.out) 1 (.bool false))
      rw[<-U]at bS
      have b3:=hid ((cl.set (g:=gX) (.inr (by have:=HGX.out;omega)) 0 (.slice D (makeT (nd0 12 c ⟨#[]⟩) [tt,y]).length G)).set (g:=gX) (.inr (by have:=HGX.out;omega)) 1 (.bool false))
      rw[<-U]at b3
      have dn:=hid (show a8.heap.size=aC.heap.size by rw[U];simp)
      rw[<-U]
      exact⟨0+1,atQ RY,bdQ RY,az,D,G,_,false,_,by go_num,by omega,ch.out,b3.out,b2.out,bj.out,cY.out,bS.out,Nat.lt_succ_of_lt HRL.out,way_next HBL.out HKL.out HGT.out HOK.out HTE.out HGF.out HGO.out HSTEP.out (Nat.le_of_lt a5.out.1) bo.out ORY.out HJM.out (by have:=a5.out;omega) bI.out⟩
     case measure=>first|(simp[intOf];done)|(simp[intOf];omega)
end
section
variable {w0:World} {l:List Tk} {a:Option Addr} {cap:Nat} {N0:List Tk} {s j:Nat} {v:Value} {E:Ps->Nat->R} {M:Nat}
set_option maxHeartbeats 12800000 in
theorem chain_cat(pl:Int)(pd pi pg psg:Bool)(w:World)(hst:Sq w0 l a cap N0 s j false v w)(hc:tk.Lies w0.heap.size w0 a l)(hl:l.length<=6000)(hl3:l.length<=3000)(L:Int)(hC:L=8)(h99:∀m,¬kd l m=99)(hN0:N0.length+l.length<=200000)(hcat:L=8->∀t m,begins (kd l m)=true->pe.step E l (kd l m) (cp 8 pi pg) t m=over2 12 99 t (E (cp 9 pi pg) m))(RX:R)(hX:∀(v:Value) (w:World),Sq w0 l a cap N0 s j false v w->Calls Tryz.prog 63 #[.pointer (some ⟨w0.heap.size,0,none⟩),.agg #[.int .i64 (L+1),.bool false,.bool pi,.bool pg,.bool false]] w (Rq w0 l a cap N0 s j v w RX))(oX:Ok M l j RX)(sX:∀lv tg t m,RX= .ok lv tg t m->goes (kd l m) lv tg (cp (L+1) pi pg)=false/\L+1<=lv)(hE:CallS w0 l a cap N0 s E (j+1))(oE:∀p i,i<=l.length->Ok M l i (E p i)):
  Calls Tryz.prog 113 #[.pointer (some ⟨w0.heap.size,0,none⟩),.agg #[.int .i64 pl,.bool pd,.bool pi,.bool pg,.bool psg],.int .i64 L,.int .i64 3000] w (Rq w0 l a cap N0 s j v w (chainR E l L pi pg RX)):=by
 have HC:=hid hc
 have HL:=hid (show l.length<=100000 by omega)
 have bo:=hid hl
 have hL:binL L:=by unfold binL;omega
 have HX:=hid hX
 have OX:=hid oX
 have HE:=hid hE
 have OE:=hid oE
 have HAT:=hid (ok_at oX)
 have b0:=hid hl3
 have HBL:=hid hL
 have ct:=hid h99
 have H:=hid hC
 have SX:=hid sX
 have cD:=hid hN0
 have c7:=hid hcat
 obtain⟨W,hW⟩:∃W,W=(w.alloc (.cells #[.int .i64 pl,.bool pd,.bool pi,.bool pg,.bool psg] 44)).alloc (.cells #[.slice none 0 0,.bool false] 95):=⟨_,rfl⟩
 have hB:Below w.heap.size w W:=by rw[hW];exact((Below.refl _ _).alloc (Nat.le_refl _) _).alloc (by simp) _
 have P0:=hid (show Mq w0.heap.size w.heap.size #[.int .i64 pl,.bool pd,.bool pi,.bool pg,.bool psg] 44 v W from Mq.of hst (by rw[hW];exact(Bk.new _ _ _).alloc _) (Nat.le_refl _))
 have R0:=hid (show Mq w0.heap.size (w.heap.size+1) #[.slice none 0 0,.bool false] 95 v W from Mq.of hst (by rw[hW];have:=Bk.new (w.alloc (.cells #[.int .i64 pl,.bool pd,.bool pi,.bool pg,.bool psg] 44)) #[.slice none 0 0,.bool false] 95;simpa using this) (Nat.le_succ _))
 have S0:=hid (hst.keep hB)
 have G0:=hid (show Gr (X0 w0.heap.size) v v w W from Gr.quiet hB)
 have HLT:=hid hst.lt
 have HBS:=hid hB.size
 have HJN:=hid hst.jn
 have HWS:=hid (show W.heap.size=w.heap.size+2 by rw[hW];simp)
 clear hB hst
 have hr:3<=L/\L<=10:=by unfold binL at hL;omega
 have HLR:=hid hr
 have cF:=hr.1
 have cC:=hr.2
 have hsd:∀op,opLevel op=L->(ps.sdS (opLevel op)).1=(ps.sdS L).1/\(ps.sdS (opLevel op)).2=rgt L:=fun op h=>⟨by rw[h],by rw[h];exact rgt_sides hL⟩
 have HSD:=hid hsd
 obtain⟨S1,b9⟩:∃S1,(ps.sdS L).1=S1:=⟨_,rfl⟩
 rw[b9]at HSD
 obtain⟨S2,ap⟩:∃S2,rgt L=S2:=⟨_,rfl⟩
 have bY:=hid ap
 rw[ap]at HSD
 clear hX oX hE oE hc hl hl3 hL h99 hN0 hcat sX hr hsd b9 ap hC
 obtain⟨c1,c2,c3,c4⟩:=S0.c
 have m5:=P0.bk.c5
 have bA:=R0.bk.c2
 have aQ:=R0.bk.f
 rw[hW]at c1 c2 c3 c4 m5 bA aQ
 go_enter Tryz.func113,Tryz.ntmps113
 go_wp2_with fail
 rw[<-hW]
 clear c1 c2 c3 c4 m5 bA aQ hW
 refine(any_level L _ HBL.out).mono ?_
 rintro e cJ ⟨⟨op,rfl,hop⟩,am⟩
 have aD:=hid (S0.keep am)
 have a5:=hid (P0.keep am)
 have a4:=hid (R0.keep am)
 have cb:=hid (G0.trans (Gr.quiet am))
 clear am
 have HOP:=hid hop
 clear hop
 have cA:=aD.c
 have c8:=a5.bk.c5
 have bZ:=a4.bk.c2
 go_wp2_with fail
 clear cA c8 bZ
 refine(ps.spec_sides op _).mono ?_
 rw[(HSD.out op HOP.out).1,(HSD.out op HOP.out).2]
 rintro e ws ⟨rfl,rfl⟩
 have ap:S2=9:=by rw[<-bY.out,H.out];rfl
 subst ap
 have bJ:=aD.c
 have bT:=a5.bk.c5
 have bI:=a4.bk.c2
 go_wp2_with fail
 clear bJ bT bI
 refine(part_any _ _ _ _ _ _ _).mono ?_
 rintro e c9 ⟨rfl,ar⟩
 have bu:=hid (aD.keep ar)
 have b8:=hid (a5.keep ar)
 have aI:=hid (a4.keep ar)
 have cr:=hid (cb.trans (Gr.quiet ar))
 clear ar
 have cl:=bu.c
 have bS:=b8.bk.c5
 have cc:=aI.bk.c2
 go_wp2_with fail
 clear cl bS cc
 refine(HX.out v c9 bu.out).mono ?_
 rintro e C ⟨T,aL,aE,bf,rfl,s9,a2,t9,aY⟩
 have bc:=hid s9
 have bC:=hid (b8.go a2)
 have aO:=hid (aI.go a2)
 have ce:=hid (cr.trans a2)
 have bW:=hid t9
 have bF:=hid aY
 obtain⟨a7,aH,rfl,cn⟩:=t9.lies
 clear s9 t9 a2 aY cn
 have HBX:=hid (show w.heap.size+1<_ from aI.bk.lt)
 have cI:=hid (show w.heap.size<C.heap.size from bC.bk.lt)
 have cq:=hid (show(w.heap.size+1)<C.heap.size from aO.bk.lt)
 obtain⟨a0,ad⟩:∃W,W=C.alloc (.cells #[.slice a7 aL.length aH,.bool aE] 95):=⟨_,rfl⟩
 have af:Below C.heap.size C a0:=by rw[ad];exact(Below.refl _ _).alloc (Nat.le_refl _) _
 have aB:=hid (show Mq w0.heap.size C.heap.size #[.slice a7 aL.length aH,.bool aE] 95 bf a0 from Mq.of bc.out (by rw[ad];exact Bk.new _ _ _) (Nat.le_refl _))
 have cE:=hid (show a0.heap.size=C.heap.size+1 by rw[ad];simp)
 have aF:=hid (bc.keep af)
 have aJ:=hid (bC.keep af)
 have a6:=hid (aO.keep af)
 have bx:=hid (bW.out.keep af)
 have b7:=hid (ce.trans (Gr.quiet af))
 clear af
 obtain⟨T,hT⟩:∃T,T=chainR E l L pi pg RX:=⟨_,rfl⟩
 have HT:=hid hT
 rw[<-hT]
 have HREL:=hid (show RelCh M w0 l a cap N0 s j E L pl pd pi pg psg 3000 T v w (C.heap.size) (.int .i64 ((0:Nat):Int)) a0 from⟨0,atQ RX,bdQ RX,bf,a7,aH,aL,aE,_,rfl,Nat.zero_le _,aF.out,b7.out,aJ.out,a6.out,aB.out,bx.out,HBX.out,by
   rw[hT]
   have hq:=bF.out
   have ho:=OX.out
   have hs:=SX.out
   clear hT
   cases RX with
   |bad m=>exact .inl ⟨rfl,rfl,hq⟩
   |ok lv tg t m=>exact .inr ⟨rfl,lv,tg,t,l.length+1,hq,ho,rfl,by omega,(hs _ _ _ _ rfl).1,.inl ⟨rfl,(hs _ _ _ _ rfl).2⟩,ho.1⟩⟩)
 have HGX:=hid (show w.heap.size+1<C.heap.size from cq.out)
 have aZ:=aF.c
 have bE:=aJ.bk.c5
 have bD:=a6.bk.c2
 have b2:=aB.bk.c2
 rw[ad]at aZ bE bD b2
 clear hT
 go_wp2
 rw[<-ad]
 clear aZ bE bD b2 ad
 obtain⟨gX,hgX⟩:∃gX,gX=C.heap.size:=⟨_,rfl⟩
 rw[<-hgX]at HREL HGX|-
 clear hgX
 clear aJ a6 aB bx aF b7 bF
 go_loopw [12] (fun n wr=>RelCh M w0 l a cap N0 s j E L pl pd pi pg psg 3000 T v w gX n wr) (fun n _=>3001-(intOf n).toNat)
 case atStart=>exact HREL.out
 case round=>
  obtain⟨K,m,bd,vr,aT,cT,tt,hh,B,rfl,hK,hs,hg,hP,hR,hXB,hT,hBB,hway⟩:=hrel
  have Sr:=hid hs
  have Gr':=hid hg
  have Pr:=hid hP
  have Rr:=hid hR
  have XBr:=hid hXB
  have Xr:=hid hT
  have HBB:=hid hBB
  clear hs hg hP hR hXB hT hBB
  have HIS:=hid (fun W2 (h2:Sq w0 l a cap N0 s m bd vr W2)=>is_any L ⟨pl,pd,pi,pg,psg⟩ W2 h2 HC.out HL.out HBL.out)
  rcases hway with ⟨rfl,hTT,hwk⟩|⟨rfl,lv,tg,t',gf,hgt,hok,hTT,hgf,hst,hlv,hjm⟩
  ·
   have HTT:=hid (HT.symm.trans hTT)
   have HWK:=hid hwk
   clear hTT hwk
   by_cases a9:K<3000
   case pos=>
    have b5:(K:Int)<3000:=by omega
    have aa:=Sr.c
    have Z:=Pr.bk.c5
    have ab:=Rr.bk.c2
    have U:=Rr.bk.f
    have ac:=XBr.bk.c2
    go_wp2_with fail
    clear aa Z ab U ac
    refine(HIS.out _ Sr.out).mono ?_
    rintro e bj ⟨rfl,o⟩
    have N:=hid (Sr.keep o)
    have ai:=hid (Pr.keep o)
    have A:=hid (Rr.keep o)
    have ae:=hid (XBr.keep o)
    have al:=hid (Xr.keep o)
    have aw:=hid (Gr'.trans (Gr.quiet o))
    clear o
    have aq:=N.c
    have ak:=ai.bk.c5
    have an:=A.bk.c2
    have au:=A.bk.f
    have ao:=ae.bk.c2
    go_wp2
    clear aq ak an au ao
    obtain⟨a3,aG⟩:=(A.bk.put2 (.slice aT tt.length cT) (.bool hh)).c2
    exact bodyPost_ret (v:= .agg #[.slice aT tt.length cT,.bool hh]) (by simp[results,Tryz.results113,go_sem,a3,aG]) rfl (by rw[HTT.out];exact rq_end HLT.out (show Sq w0 l a cap N0 s m true _ _ from N.out) aw.out A.out al.out (by exact Nat.le_succ _) (by exact HBB.out) (HWK.out))
   case neg=>
    have b5:¬(K:Int)<3000:=by omega
    clear a9
    have aa:=Sr.c
    have Z:=Pr.bk.c5
    have ab:=Rr.bk.c2
    have U:=Rr.bk.f
    have ac:=XBr.bk.c2
    go_wp2
    clear aa Z ab U ac
    obtain⟨bR,ca⟩:=(Rr.bk.put2 (.slice aT tt.length cT) (.bool hh)).c2
    exact bodyPost_ret (v:= .agg #[.slice aT tt.length cT,.bool hh]) (by simp[results,Tryz.results113,go_sem,bR,ca]) rfl (by rw[HTT.out];exact rq_end HLT.out (show Sq w0 l a cap N0 s m true _ _ from Sr.out) Gr'.out Rr.out Xr.out (by exact Nat.le_succ _) (by exact HBB.out) (HWK.out))
  ·
   have bU:=hok.2.1
   have HGT:=hid hgt
   have HOK:=hid hok
   have HJM:=hid hjm
   have HGF:=hid hgf
   have HTE:=hid hTT
   have a9:K<3000:=by have:=b0.out;omega
   have b5:(K:Int)<3000:=by omega
   have hiso:=is_op HBL.out (ct.out m) (by rcases hlv with ⟨-,h⟩|⟨-,h,-⟩;exact .inl h;exact .inr ⟨h,by have:=H.out;omega⟩) hst
   clear hlv hst bU a9
   obtain⟨c,hcc⟩:∃c,kd l m=c:=⟨_,rfl⟩
   have HCC:=hid hcc
   rw[hcc]at HIS hiso
   by_cases hop:isOp L pg c=true
   case neg=>
    have hop':isOp L pg c=false:=by simpa using hop
    rw[hop']at HIS hiso
    have HTT:=hid (HT.symm.trans (hTT.trans (go_stop (by rw[hcc];exact hiso) (by omega))))
    clear hop hop' hiso hgt hok hjm hgf hTT hcc
    have aa:=Sr.c
    have Z:=Pr.bk.c5
    have ab:=Rr.bk.c2
    have U:=Rr.bk.f
    have ac:=XBr.bk.c2
    go_wp2_with fail
    clear aa Z ab U ac
    refine(HIS.out _ Sr.out).mono ?_
    rintro e bj ⟨rfl,o⟩
    have N:=hid (Sr.keep o)
    have ai:=hid (Pr.keep o)
    have A:=hid (Rr.keep o)
    have ae:=hid (XBr.keep o)
    have al:=hid (Xr.keep o)
    have aw:=hid (Gr'.trans (Gr.quiet o))
    clear o
    have aq:=N.c
    have ak:=ai.bk.c5
    have an:=A.bk.c2
    have au:=A.bk.f
    have ao:=ae.bk.c2
    go_wp2
    clear aq ak an au ao
    obtain⟨a3,aG⟩:=(A.bk.put2 (.slice aT tt.length cT) (.bool hh)).c2
    exact bodyPost_ret (v:= .agg #[.slice aT tt.length cT,.bool hh]) (by simp[results,Tryz.results113,go_sem,a3,aG]) rfl (by rw[HTT.out];exact rq_end HLT.out (show Sq w0 l a cap N0 s m false _ _ from N.out) aw.out A.out al.out (by exact Nat.le_succ _) (by exact HBB.out) (HGT.out))
   case pos=>
    have HOP:=hid hop
    rw[hop]at HIS hiso
    have HGO:=hid (show goes (kd l m) lv tg (cp L pi pg)=true by rw[hcc];exact hiso)
    have HJL:=hid (show m<=l.length from hok.2.1)
    clear hop hiso hgt hok hjm hgf hTT
    have HBG:=hid (show begins (kd l m)=true by have h:=HOP.out;unfold isOp at h;rw[if_pos H.out]at h;rw[hcc];exact h)
    have q8:(L==8)=true:=by rw[H.out];rfl
    have q3:(L==3)=false:=by rw[H.out];rfl
    have q4:(L==4)=false:=by rw[H.out];rfl
    obtain⟨RY,hRY⟩:∃R,E (cp 9 pi pg) m=R:=⟨_,rfl⟩
    have HRY:=hid hRY
    have ORY:=hid (show Ok M l m RY by rw[<-hRY];exact OE.out _ _ HJL.out)
    have HSTEP:=hid (show pe.step E l (kd l m) (cp L pi pg) t' m=over2 12 99 t' RY by rw[<-hRY,H.out];exact c7.out H.out _ _ HBG.out)
    clear hcc hRY
    have aa:=Sr.c
    have Z:=Pr.bk.c5
    have ab:=Rr.bk.c2
    have U:=Rr.bk.f
    have ac:=XBr.bk.c2
    go_wp2_with fail
    clear aa Z ab U ac
    refine(HIS.out _ Sr.out).mono ?_
    rintro e bj ⟨rfl,o⟩
    have N:=hid (Sr.keep o)
    have ai:=hid (Pr.keep o)
    have A:=hid (Rr.keep o)
    have ae:=hid (XBr.keep o)
    have al:=hid (Xr.keep o)
    have aw:=hid (Gr'.trans (Gr.quiet o))
    clear o
    have aq:=N.c
    have ak:=ai.bk.c5
    have an:=A.bk.c2
    have au:=A.bk.f
    have ao:=ae.bk.c2
    go_wp2_with fail
    clear aq ak an au ao
    refine(part_any _ _ _ _ _ _ _).mono ?_
    rintro e bN ⟨rfl,Q⟩
    have bz:=hid (N.keep Q)
    have ba:=hid (ai.keep Q)
    have aM:=hid (A.keep Q)
    have aC:=hid (ae.keep Q)
    have bX:=hid (al.keep Q)
    have cd:=hid (aw.trans (Gr.quiet Q))
    clear Q
    have bG:=bz.c
    have ch:=ba.bk.c5
    have bO:=aM.bk.c2
    have cw:=aC.bk.c2
    have cj:=aC.bk.f
    go_wp2_with fail
    clear bG ch bO cw cj
    refine(show Calls _ _ _ _ (Rq w0 l a cap N0 s m vr bN RY) by rw[<-HRY.out];exact HE.out 9 pi pg false m _ _ (by decide) (by decide) (by have:=HJM.out;omega) bz.out).mono ?_
    rintro e P ⟨T,y,bm,az,rfl,s9,ah,t9,b6⟩
    have bs:=hid s9
    have br:=hid (ba.go ah)
    have b1:=hid (aM.go ah)
    have bB:=hid (aC.go ah)
    have bV:=hid (bX.go ah)
    have bQ:=hid (cd.trans ah)
    have cz:=hid t9
    have aU:=hid b6
    obtain⟨a1,ax,rfl,bL⟩:=t9.lies
    clear s9 t9 ah b6 bL
    have HWX:=hid (gt_wk1 HGT.out HOK.out)
    have HWY:=hid (gt_wk aU.out ORY.out)
    have HOY:=hid (ok_at ORY.out)
    have cH:=hid (show w.heap.size<P.heap.size from br.bk.lt)
    have cK:=hid (show(w.heap.size+1)<P.heap.size from b1.bk.lt)
    have cM:=hid (show gX<P.heap.size from bB.bk.lt)
    obtain⟨V,ag⟩:∃W,W=P.alloc (.cells #[.slice a1 y.length ax,.bool bm] 95):=⟨_,rfl⟩
    have O:Below P.heap.size P V:=by rw[ag];exact(Below.refl _ _).alloc (Nat.le_refl _) _
    have bq:=hid (show Mq w0.heap.size P.heap.size #[.slice a1 y.length ax,.bool bm] 95 az V from Mq.of bs.out (by rw[ag];exact Bk.new _ _ _) (Nat.le_refl _))
    have bP:=hid (show V.heap.size=P.heap.size+1 by rw[ag];simp)
    have aA:=hid (bs.keep O)
    have bi:=hid (br.keep O)
    have bn:=hid (b1.keep O)
    have ay:=hid (bB.keep O)
    have b3:=hid (bV.keep O)
    have aV:=hid (cz.out.keep O)
    have cx:=hid (bQ.trans (Gr.quiet O))
    clear O
    have bw:=aA.c
    have aX:=bi.bk.c5
    have aW:=bn.bk.c2
    have bh:=ay.bk.c2
    have bp:=ay.bk.f
    have aS:=bq.bk.c2
    rw[ag]at bw aX aW bh bp aS
    go_wp2_with fail
    rw[<-ag]
    clear bw aX aW bh bp aS ag
    have bt:=b3.lies'
    have b4:=aV.lies'
    refine(over2_any bP.out 12 99 ⟨#[]⟩ tt y bt b4 (wk_mono HWX.out (by have:=bo.out;have:=HJL.out;omega)) (wk_mono HWY.out (by have:=bo.out;have:=HOY.out;omega))).mono ?_
    rintro e aK ⟨T,z,r,rfl,hz,hp,aP,hr⟩
    have u2110:=Tq.of (aA.alloc (.cells #[.slice aT tt.length cT,.slice a1 y.length ax] 26)) hp hr
    rw[hz]at u2110
    have bH:=hid (show(V.alloc (.cells #[.slice aT tt.length cT,.slice a1 y.length ax] 26)).heap.size=V.heap.size+1 by simp)
    rw[bH.out]at u2110
    have bK:=hid u2110
    have F:Below V.heap.size V aK:=((Below.refl _ _).alloc (Nat.le_refl _) _).trans (aP.mono (by simp))
    have aN:=hid (aA.keep F)
    have bl:=hid (bi.keep F)
    have bv:=hid (bn.keep F)
    have aj:=hid (ay.keep F)
    have c0:=hid (bq.keep F)
    have cB:=hid (b3.keep F)
    have cG:=hid (aV.keep F)
    have ci:=hid (cx.trans (Gr.quiet F))
    obtain⟨G,D,rfl,-⟩:=u2110.lies
    clear u2110 hz hp hr aP F bt b4
    have HXL:=hid (show gX<_ from ay.bk.lt)
    have HRL:=hid (show w.heap.size+1<_ from Nat.lt_trans HGX.out HXL.out)
    have co:=aN.c
    have cy:=bl.bk.c5
    have cg:=bv.bk.c2
    have cf:=aj.bk.c2
    have cm:=aj.bk.f
    have c6:=c0.bk.c2
    go_wp2
    clear co cy cg cf cm c6
    go_roundw
    case rel=>
     obtain⟨a8,J⟩:∃W,W=((aK.setCell ⟨gX,0,none⟩ (.slice G (makeT (nd0 12 99 ⟨#[]⟩) [tt,y]).length D)).setCell ⟨gX,1,none⟩ (.bool false)):=⟨_,rfl⟩
     have bM:=hid (by rw[J];exact((aN.out).mset aj.out 0 _).mset (aj.set 0 (.slice G (makeT (nd0 12 99 ⟨#[]⟩) [tt,y]).length D)) 1 _:Sq w0 l a cap N0 s (atQ RY) (bdQ RY) az a8)
     have bb:=hid ((bl.oth (k:=gX) (by have:=HGX.out;omega) 0 (.slice G (makeT (nd0 12 99 ⟨#[]⟩) [tt,y]).length D)).oth (k:=gX) (by have:=HGX.out;omega) 1 (.bool false))
     rw[<-J]at bb
     have aR:=hid ((bv.oth (k:=gX) (by have:=HGX.out;omega) 0 (.slice G (makeT (nd0 12 99 ⟨#[]⟩) [tt,y]).length D)).oth (k:=gX) (by have:=HGX.out;omega) 1 (.bool false))
     rw[<-J]at aR
     have ck:=hid (by rw[J];exact((aj.set 0 (.slice G (makeT (nd0 12 99 ⟨#[]⟩) [tt,y]).length D)).set 1 (.bool false)):Mq w0.heap.size gX #[.slice G (makeT (nd0 12 99 ⟨#[]⟩) [tt,y]).length D,.bool false] 95 az a8)
     have be:=hid ((bK.out.low (g:=gX) (Nat.lt_succ_of_lt HXL.out) 0 (.slice G (makeT (nd0 12 99 ⟨#[]⟩) [tt,y]).length D)).low (g:=gX) (Nat.lt_succ_of_lt HXL.out) 1 (.bool false))
     rw[<-J]at be
     have bg:=hid ((ci.set (g:=gX) (.inr (by have:=HGX.out;omega)) 0 (.slice G (makeT (nd0 12 99 ⟨#[]⟩) [tt,y]).length D)).set (g:=gX) (.inr (by have:=HGX.out;omega)) 1 (.bool false))
     rw[<-J]at bg
     have cL:=hid (show a8.heap.size=aK.heap.size by rw[J];simp)
     rw[<-J]
     exact⟨K+1,atQ RY,bdQ RY,az,G,D,_,false,_,by go_num,by omega,bM.out,bg.out,bb.out,aR.out,ck.out,be.out,Nat.lt_succ_of_lt HRL.out,way_next HBL.out (by rw[H.out];rfl) HGT.out HOK.out HTE.out HGF.out HGO.out HSTEP.out (Nat.le_refl _) aU.out ORY.out HJM.out (by exact .inr rfl) b0.out⟩
    case measure=>simp[intOf];omega
end
end Go.Proofs.YtebjmdpkobhcbaaGreatDoor.qs
