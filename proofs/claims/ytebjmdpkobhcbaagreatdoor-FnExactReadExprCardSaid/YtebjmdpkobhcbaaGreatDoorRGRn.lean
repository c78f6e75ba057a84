/- A part. -/
import Derived.Test.YtebjmdpkobhcbaaGreatDoorRGR
import Derived.Deep.CutRange
import Derived.Deep.CutBlock
import Derived.Deep.DeepCutAuto
namespace Go.Proofs.YtebjmdpkobhcbaaGreatDoor.qs
open Go.ChangeShapes Go.WideShapes Go.ChangeAt Go.RowKit
open tk (Tk)
open nd (Nd PT KidV makeT)
open ps (Ps posOk top)
open pe
open rt (isLval)
open operand (begins)
open lv (opLevel levelOf has)
open pr (Bk Gr X0 below_drewN eq_facts ne_facts fld_k fld_s)
set_option linter.unusedVariables false
set_option linter.unusedSimpArgs false
set_option maxRecDepth 20000
section
variable {w0:World} {l:List Tk} {a:Option Addr} {cap:Nat} {N0:List Tk} {s j:Nat} {v:Value} {E:Ps->Nat->R} {M:Nat}
def inR(E:Ps->Nat->R)(l:List Tk)(i g:Bool)(j:Nat)(RX:R):R:=
 match (if i=false/\comma l j=true then multi E l j else RX)with
 | .bad m=> .bad m
 | .ok lv tg t m=>go E l (cp 5 i g) (l.length+1) lv tg t m
theorem inR_no{i g:Bool}{RX:R}(h:¬(i=false/\comma l j=true)):inR E l i g j RX=(match RX with| .bad m=> .bad m| .ok lv tg t m=>go E l (cp 5 i g) (l.length+1) lv tg t m):=by unfold inR;rw[if_neg h]
theorem inR_yes{i g:Bool}{RX:R}(h:i=false/\comma l j=true):inR E l i g j RX=(match multi E l j with| .bad m=> .bad m| .ok lv tg t m=>go E l (cp 5 i g) (l.length+1) lv tg t m):=by unfold inR;rw[if_pos h]
def multiR(l:List Tk):P->R
 | .bad m=> .bad m
 | .ok ps m=>if kd l m=33 then inn l ps (m+1)else .bad m
theorem multi_eq:multi E l j=multiR l (els E l 6 6 [] (j+1)):=by unfold multi multiR;cases els E l 6 6 [] (j+1)<;>rfl
def WayI(M:Nat)(l:List Tk)(E:Ps->Nat->R)(i g:Bool)(j:Nat)(T:R)(m:Nat)(bd:Bool)(t:List Nd)(h:Bool):Prop:=
 (bd=true/\T= .bad m/\Wk (2*(m-j)) t)\/(bd=false/\∃lv tg t' gf,GtR j t h (.ok lv tg t' m)/\Ok M l j (.ok lv tg t' m)/\T=go E l (cp 5 i g) gf lv tg t' m/\l.length-m<gf/\goes (kd l m) lv tg (cp 6 i g)=false/\5<=lv)
theorem way_start{i g:Bool}{T r:R}{t:List Nd}{h:Bool}(hT:T=(match r with| .bad m=> .bad m| .ok lv tg t m=>go E l (cp 5 i g) (l.length+1) lv tg t m))(hg:GtR j t h r)(ho:Ok M l j r)(hs:∀lv tg t m,r= .ok lv tg t m->goes (kd l m) lv tg (cp 6 i g)=false/\5<=lv):WayI M l E i g j T (atQ r) (bdQ r) t h:=by
 cases r with
 |bad m=>exact .inl ⟨rfl,hT,hg⟩
 |ok lv tg t' m=>exact .inr ⟨rfl,lv,tg,t',l.length+1,hg,ho,hT,by omega,(hs _ _ _ _ rfl).1,(hs _ _ _ _ rfl).2⟩
theorem multi_stuck{i g:Bool}{lv:Int}{tg:Bool}{t:List Nd}{m:Nat}(h:multi E l j= .ok lv tg t m):goes (kd l m) lv tg (cp 6 i g)=false/\5<=lv:=by
 unfold multi at h
 cases hr:els E l 6 6 [] (j+1)with
 |bad m=>rw[hr]at h;cases h
 |ok ps m'=>
  rw[hr]at h
  simp only at h
  split at h
  ·obtain⟨rfl,rfl,-⟩:=inn_lv h
   exact⟨no_low (cp_ok (by decide) (by decide)) (show(5:Int)<6 by decide),by decide⟩
  ·cases h
theorem multi_ok(oE:∀p i,i<=l.length->Ok M l i (E p i))(hM:∀t∈l,t.s.size<=M)(hb:l.length<=100000)(hi:j<l.length):Ok M l j (multi E l j):=by
 unfold multi
 have h3:=els_ok (M:=M) oE 6 6 [] (j+1) (by omega) (fun q hq=>by simp at hq)
 have h4:=els_len (E:=E) (l:=l) 6 6 [] (j+1)
 cases hr:els E l 6 6 [] (j+1)with
 |bad m=>rw[hr]at h3;exact⟨by have:=h3.1;omega,h3.2⟩
 |ok ps m=>
  rw[hr]at h3
  obtain⟨b1,b2,b3,b4,b5⟩:=h3
  have h5:=h4 _ _ hr
  simp[nd.sumL]at b3 h5
  simp only
  split
  ·next h6=>
   have:=kd_lt (l:=l) (i:=m) (by omega)
   exact inn_ok hM hb (by omega) (by omega) (fun q hq=>(b4 q hq).2) (by omega) (by omega)
  ·exact⟨by omega,b2⟩
def innR(l:List Tk)(t:List Nd)(m:Nat):R:=if kd l (m+1)=6 then fin 13 0 (tx l (m+1)) [t] (m+2)else .bad (m+1)
theorem way_in{i g:Bool}{T:R}{m:Nat}{t1:List Nd}{h1:Bool}{lv:Int}{tg:Bool}{t':List Nd}{gf:Nat}(hM:∀t∈l,t.s.size<=M)(hb:l.length<=6000)(hx:GtR j t1 h1 (.ok lv tg t' m))(ox:Ok M l j (.ok lv tg t' m))(hT:T=go E l (cp 5 i g) gf lv tg t' m)(hg:l.length-m<gf)(hgo:goes (kd l m) lv tg (cp 5 i g)=true)(hk:kd l m=24)(x:ByteArray)(hxx:kd l (m+1)=6->x=tx l (m+1)):
  WayI M l E i g j T (atQ (innR l t' m)) (bdQ (innR l t' m)) (makeT (nd0 13 0 x) [t1]) false:=by
 obtain⟨gf,rfl⟩:∃k,gf=k+1:=⟨gf-1,by omega⟩
 have hs:pe.step E l (kd l m) (cp 5 i g) t' m=innR l t' m:=by
  rw[hk]
  show inn l [t'] m=_
  unfold inn innR
  rw[if_pos hk]
 rw[go_next hgo,hs]at hT
 have o:=gt_wk1 hx ox
 unfold innR at hT|-
 have hlt:=kd_lt (l:=l) (i:=m) (by omega)
 by_cases h6:kd l (m+1)=6
 ·rw[if_pos h6]at hT|-
  have A:=kd_lt (l:=l) (i:=m+1) (by omega)
  have y:=hxx h6
  subst y
  obtain⟨rfl,-⟩:=hx
  obtain⟨a1,a2,a3,a4,a5,a6⟩:=ox
  refine .inr ⟨rfl,levelOf 13 0,isLval 13,_,gf,⟨rfl,(put_make _ _ _ _).symm⟩, ?_,hT,by show l.length-(m+2)<gf;omega,no_low (cp_ok (by decide) (by decide)) (show(5:Int)<6 by decide),by decide⟩
  exact ok_fin (by decide) (tx_le hM _) (by simp) (fun q hq=>by simp at hq;subst hq;exact a6) (by show j<m+2;omega) (by show m+2<=l.length;omega) (by omega) (by show nd.sumL [t1]+2<=2*(m+2-j);simp only[nd.sumL];omega)
 ·rw[if_neg h6]at hT|-
  refine .inl ⟨rfl,hT,wk_mono (wk_make (K:=2*(m-j)-1+1) (fun q hq n hn=>by simp at hq;subst hq;exact o.2 n hn) (by simp) (by have:=o.1;simp[nd.sumL];omega)) (by have:=ox.1;show _<=2*(m+1-j);omega)⟩
def RelIn(M:Nat)(w0:World)(l:List Tk)(a:Option Addr)(cap:Nat)(N0:List Tk)(s j:Nat)(E:Ps->Nat->R)(pl:Int)(pd pi pg psg:Bool)(T:R)(v:Value)(w:World)(gX:Nat)(wr:World):Prop:=
 ∃(m:Nat) (bd:Bool) (v':Value) (aT:Option Addr) (cT:Nat) (t:List Nd) (h:Bool) (B:Nat),Sq w0 l a cap N0 s m bd v' wr/\Gr (X0 w0.heap.size) v v' w wr/\Mq w0.heap.size w.heap.size #[.int .i64 pl,.bool pd,.bool pi,.bool pg,.bool psg] 44 v' wr/\Mq w0.heap.size (w.heap.size+1) #[.slice none 0 0,.bool false] 95 v' wr/\Mq w0.heap.size gX #[.slice aT t.length cT,.bool h] 95 v' wr/\Tq w0.heap.size B (.slice aT t.length cT) t v' wr/\w.heap.size+1<B/\WayI M l E pi pg j T m bd t h
end
open Lib (hid)
section
variable {w0:World} {l:List Tk} {a:Option Addr} {cap:Nat} {N0:List Tk} {s j:Nat} {v:Value} {E:Ps->Nat->R} {M:Nat}
set_option maxHeartbeats 12800000 in
theorem in_no(pl:Int)(pd pi pg psg:Bool)(w:World)(hst:Sq w0 l a cap N0 s j false v w)(hc:tk.Lies w0.heap.size w0 a l)(hl:l.length<=6000)(hM:∀t∈l,t.s.size<=M)(hC:¬(pi=false/\comma l j=true))(RX:R)(hX:∀(v:Value) (w:World),Sq w0 l a cap N0 s j false v w->Calls Tryz.prog 63 #[.pointer (some ⟨w0.heap.size,0,none⟩),.agg #[.int .i64 6,.bool false,.bool pi,.bool pg,.bool false]] w (Rq w0 l a cap N0 s j v w RX))(oX:Ok M l j RX)(sX:∀lv tg t m,RX= .ok lv tg t m->goes (kd l m) lv tg (cp 6 pi pg)=false/\5<=lv)(hE:CallS w0 l a cap N0 s E (j+1))(oE:∀p i,i<=l.length->Ok M l i (E p i))(hN0:N0.length+l.length<=200000):
  Calls Tryz.prog 112 #[.pointer (some ⟨w0.heap.size,0,none⟩),.agg #[.int .i64 pl,.bool pd,.bool pi,.bool pg,.bool psg]] w (Rq w0 l a cap N0 s j v w (inR E l pi pg j RX)):=by
 have HC:=hid hc
 have HL:=hid (show l.length<=100000 by omega)
 have bb:=hid hl
 have HX:=hid hX
 have OX:=hid oX
 have HAT:=hid (ok_at oX)
 have SX:=hid sX
 have HM:=hid hM
 have ec:=hid hN0
 obtain⟨T,hT⟩:∃T,T=inR E l pi pg j RX:=⟨_,rfl⟩
 have HT:=hid hT
 rw[<-hT]
 obtain⟨W,hW⟩:∃Wx,Wx=(w.alloc (.cells #[.int .i64 pl,.bool pd,.bool pi,.bool pg,.bool psg] 44)).alloc (.cells #[.slice none 0 0,.bool false] 95):=⟨_,rfl⟩
 have hB:Below w.heap.size w W:=by rw[hW];exact((Below.refl _ _).alloc (Nat.le_refl _) _).alloc (by simp) _
 have P0:=hid (show Mq w0.heap.size w.heap.size #[.int .i64 pl,.bool pd,.bool pi,.bool pg,.bool psg] 44 v W from Mq.of hst (by rw[hW];exact(Bk.new _ _ _).alloc _) (Nat.le_refl _))
 have R0:=hid (show Mq w0.heap.size (w.heap.size+1) #[.slice none 0 0,.bool false] 95 v W from Mq.of hst (by rw[hW];have:=Bk.new (w.alloc (.cells #[.int .i64 pl,.bool pd,.bool pi,.bool pg,.bool psg] 44)) #[.slice none 0 0,.bool false] 95;simpa using this) (Nat.le_succ _))
 have S0:=hid (hst.keep hB)
 have G0:=hid (show Gr (X0 w0.heap.size) v v w W from Gr.quiet hB)
 have HLT:=hid hst.lt
 have HBS:=hid hB.size
 have HJN:=hid hst.jn
 have HWS:=hid (show W.heap.size=w.heap.size+2 by rw[hW];simp)
 clear hB hst
 obtain⟨W2,af⟩:∃W2,W2=W.alloc (.cells #[.slice none 0 0,.bool false] 95):=⟨_,rfl⟩
 have aK:Below W.heap.size W W2:=by rw[af];exact(Below.refl _ _).alloc (Nat.le_refl _) _
 have HSW:=hid (show W.heap.size=w.heap.size+1+1 by rw[hW];simp)
 have bc:=hid (show Mq w0.heap.size (w.heap.size+1+1) #[.slice none 0 0,.bool false] 95 v W2 by rw[<-HSW.out];exact Mq.of S0.out (by rw[af];exact Bk.new _ _ _) (Nat.le_refl _))
 have C:=hid (show w.heap.size+1<w.heap.size+1+1 by omega)
 have S1:=hid (S0.keep aK)
 have P2:=hid (P0.keep aK)
 have R3:=hid (R0.keep aK)
 have G4:=hid (G0.trans (Gr.quiet aK))
 have HCA:=hid (comma_any W2 S1.out hc (by omega))
 have HTM:=hid (hT.trans (inR_no hC))
 have HCN:=hid hC
 clear hX oX hE oE hc hl hM sX hN0 hT aK
 cases pi with
 |true=>
  obtain⟨c5,c6,c7,c8⟩:=S1.c
  have m9:=P2.bk.c5
  have aG:=R3.bk.c2
  have a7:=bc.bk.c2
  rw[af,hW]at c5 c6 c7 c8 m9 aG a7
  go_enter Tryz.func112,Tryz.ntmps112
  go_wp2_with fail
  rw[<-hW,<-af]
  clear hW af c5 c6 c7 c8 m9 aG a7
  refine(part_any _ _ _ _ _ _ _).mono ?_
  rintro e cZ ⟨rfl,F⟩
  have aB:=hid (S1.keep F)
  have aP:=hid (P2.keep F)
  have a5:=hid (R3.keep F)
  have a1:=hid (bc.keep F)
  have b9:=hid (G4.trans (Gr.quiet F))
  clear F
  have bi:=aB.c
  have bz:=aP.bk.c5
  have bu:=a5.bk.c2
  have bL:=a1.bk.c2
  go_wp2_with fail
  clear bi bz bu bL
  refine(HX.out v cZ aB.out).mono ?_
  rintro e aX ⟨T,ac,ad,bs,rfl,s9,aJ,t9,ce⟩
  have aF:=hid s9
  have cH:=hid (aP.go aJ)
  have cJ:=hid (a5.go aJ)
  have aI:=hid (a1.go aJ)
  have dA:=hid (b9.trans aJ)
  have di:=hid t9
  have dJ:=hid ce
  obtain⟨Z,V,rfl,d8⟩:=t9.lies
  clear s9 t9 aJ ce d8
  have HBL:=hid (show w.heap.size+1<_ from a5.bk.lt)
  have dv:=aF.c
  have dw:=cH.bk.c5
  have dB:=cJ.bk.c2
  have dY:=aI.bk.c2
  have dC:=aI.bk.f
  obtain⟨be,J⟩:∃Wx,Wx=((aX.setCell ⟨(w.heap.size+1+1),0,none⟩ (.slice Z ac.length V)).setCell ⟨(w.heap.size+1+1),1,none⟩ (.bool ad)):=⟨_,rfl⟩
  have bt:=hid (by rw[J];exact((aF.out).mset aI.out 0 _).mset (aI.set 0 (.slice Z ac.length V)) 1 _:Sq w0 l a cap N0 s (atQ RX) (bdQ RX) bs be)
  have aW:=hid ((cH.oth (k:=(w.heap.size+1+1)) (by have:=C.out;omega) 0 (.slice Z ac.length V)).oth (k:=(w.heap.size+1+1)) (by have:=C.out;omega) 1 (.bool ad))
  rw[<-J]at aW
  have bh:=hid ((cJ.oth (k:=(w.heap.size+1+1)) (by have:=C.out;omega) 0 (.slice Z ac.length V)).oth (k:=(w.heap.size+1+1)) (by have:=C.out;omega) 1 (.bool ad))
  rw[<-J]at bh
  have bj:=hid (by rw[J];exact((aI.set 0 (.slice Z ac.length V)).set 1 (.bool ad)):Mq w0.heap.size (w.heap.size+1+1) #[.slice Z ac.length V,.bool ad] 95 bs be)
  have bM:=hid ((di.out.low (g:=(w.heap.size+1+1)) (a1.bk.lt) 0 (.slice Z ac.length V)).low (g:=(w.heap.size+1+1)) (a1.bk.lt) 1 (.bool ad))
  rw[<-J]at bM
  have bm:=hid ((dA.set (g:=(w.heap.size+1+1)) (.inr (by have:=C.out;omega)) 0 (.slice Z ac.length V)).set (g:=(w.heap.size+1+1)) (.inr (by have:=C.out;omega)) 1 (.bool ad))
  rw[<-J]at bm
  have ed:=hid (show be.heap.size=aX.heap.size by rw[J];simp)
  have aS:=hid (show RelIn M w0 l a cap N0 s j E pl pd true pg psg T v w ((w.heap.size+1+1)) be from⟨atQ (RX),bdQ (RX),bs,Z,V,_,ad,_,bt.out,bm.out,aW.out,bh.out,bj.out,bM.out,HBL.out,way_start HTM.out (dJ.out) (OX.out) (SX.out)⟩)
  have HGX:=hid C.out
  have bQ:=bt.c
  have cc:=aW.bk.c5
  have cV:=bh.bk.c2
  have ca:=bj.bk.c2
  rw[J]at bQ cc cV ca
  go_wp2
  rw[<-J]
  clear dv dw dB dY dC bQ cc cV ca J
  obtain⟨gX,hgX⟩:∃gX,gX=(w.heap.size+1+1):=⟨_,rfl⟩
  rw[<-hgX]at aS HGX|-
  clear hgX aW bh bj bM bt bm
  go_loopw [8] (fun _ wr=>RelIn M w0 l a cap N0 s j E pl pd true pg psg T v w gX wr) (fun _ wr=>msr l.length w0.heap.size wr)
  case atStart=>exact aS.out
  case round=>
   obtain⟨m,bd,vr,aT,cT,tt,hh,B,hs,hg,hP,hR,hXB,hT,hBB,hway⟩:=hrel
   have Sr:=hid hs
   have Gr':=hid hg
   have Pr:=hid hP
   have Rr:=hid hR
   have XBr:=hid hXB
   have Xr:=hid hT
   have HBB:=hid hBB
   have HMS:=hid (msr_of hs)
   clear hs hg hP hR hXB hT hBB
   rcases hway with ⟨rfl,hTT,hwk⟩|⟨rfl,lv,tg,t',gf,hgt,hok,hTT,hgf,hst,hlv⟩
   ·
    have HTT:=hid hTT
    have HWK:=hid hwk
    clear hTT hwk
    have b0:=Sr.c
    have bI:=Pr.bk.c5
    have b4:=Rr.bk.c2
    have b8:=Rr.bk.f
    have bq:=XBr.bk.c2
    go_wp2
    clear b0 bI b4 b8 bq
    obtain⟨b6,b1⟩:=(Rr.bk.put2 (.slice aT tt.length cT) (.bool hh)).c2
    exact bodyPost_ret (v:= .agg #[.slice aT tt.length cT,.bool hh]) (by simp[results,Tryz.results112,go_sem,b6,b1]) rfl (by rw[HTT.out];exact rq_end HLT.out (show Sq w0 l a cap N0 s m true _ _ from Sr.out) Gr'.out Rr.out Xr.out (by exact Nat.le_succ _) (by exact HBB.out) (HWK.out))
   ·
    have HGT:=hid hgt
    have HOK:=hid hok
    have HGF:=hid hgf
    have HTE:=hid hTT
    have hiso:=goes_5 hlv hst
    have HJL:=hid (show m<=l.length from hok.2.1)
    have HK:=hid (fun W2 (h2:Sq w0 l a cap N0 s m false vr W2)=>kind_any W2 h2 HC.out HL.out)
    have HTT:=hid (hTT.trans (go_stop hiso (by omega)))
    clear hiso hgt hok hgf hTT hst hlv
    have b0:=Sr.c
    have bI:=Pr.bk.c5
    have b4:=Rr.bk.c2
    have b8:=Rr.bk.f
    have bq:=XBr.bk.c2
    go_wp2
    clear b0 bI b4 b8 bq
    obtain⟨b6,b1⟩:=(Rr.bk.put2 (.slice aT tt.length cT) (.bool hh)).c2
    exact bodyPost_ret (v:= .agg #[.slice aT tt.length cT,.bool hh]) (by simp[results,Tryz.results112,go_sem,b6,b1]) rfl (by rw[HTT.out];exact rq_end HLT.out (show Sq w0 l a cap N0 s m false _ _ from Sr.out) Gr'.out Rr.out Xr.out (by exact Nat.le_succ _) (by exact HBB.out) (HGT.out))
 |false=>
  have hcm:comma l j=false:=by have h:=HCN.out;simpa using h
  rw[hcm]at HCA
  clear hcm
  obtain⟨c5,c6,c7,c8⟩:=S1.c
  have m9:=P2.bk.c5
  have aG:=R3.bk.c2
  have a7:=bc.bk.c2
  rw[af,hW]at c5 c6 c7 c8 m9 aG a7
  go_enter Tryz.func112,Tryz.ntmps112
  go_wp2_with fail
  rw[<-hW,<-af]
  clear hW af c5 c6 c7 c8 m9 aG a7
  refine(HCA.out).mono ?_
  rintro e cZ ⟨rfl,F⟩
  have aB:=hid (S1.keep F)
  have aP:=hid (P2.keep F)
  have a5:=hid (R3.keep F)
  have a1:=hid (bc.keep F)
  have b9:=hid (G4.trans (Gr.quiet F))
  clear F
  have bi:=aB.c
  have bz:=aP.bk.c5
  have bu:=a5.bk.c2
  have bL:=a1.bk.c2
  go_wp2_with fail
  clear bi bz bu bL
  refine(part_any _ _ _ _ _ _ _).mono ?_
  rintro e aX ⟨rfl,a3⟩
  have aF:=hid (aB.keep a3)
  have cl:=hid (aP.keep a3)
  have br:=hid (a5.keep a3)
  have aY:=hid (a1.keep a3)
  have dx:=hid (b9.trans (Gr.quiet a3))
  clear a3
  have dl:=aF.c
  have dR:=cl.bk.c5
  have d0:=br.bk.c2
  have d6:=aY.bk.c2
  go_wp2_with fail
  clear dl dR d0 d6
  refine(HX.out v aX aF.out).mono ?_
  rintro e cz ⟨T,aa,ae,bE,rfl,s9,a8,t9,cS⟩
  have cA:=hid s9
  have cR:=hid (cl.go a8)
  have da:=hid (br.go a8)
  have aL:=hid (aY.go a8)
  have dz:=hid (dx.trans a8)
  have dM:=hid t9
  have dU:=hid cS
  obtain⟨U,Q,rfl,dp⟩:=t9.lies
  clear s9 t9 a8 cS dp
  have HBL:=hid (show w.heap.size+1<_ from br.bk.lt)
  have dE:=cA.c
  have dX:=cR.bk.c5
  have df:=da.bk.c2
  have dk:=aL.bk.c2
  have dt:=aL.bk.f
  obtain⟨aZ,O⟩:∃Wx,Wx=((cz.setCell ⟨(w.heap.size+1+1),0,none⟩ (.slice U aa.length Q)).setCell ⟨(w.heap.size+1+1),1,none⟩ (.bool ae)):=⟨_,rfl⟩
  have bK:=hid (by rw[O];exact((cA.out).mset aL.out 0 _).mset (aL.set 0 (.slice U aa.length Q)) 1 _:Sq w0 l a cap N0 s (atQ RX) (bdQ RX) bE aZ)
  have ba:=hid ((cR.oth (k:=(w.heap.size+1+1)) (by have:=C.out;omega) 0 (.slice U aa.length Q)).oth (k:=(w.heap.size+1+1)) (by have:=C.out;omega) 1 (.bool ae))
  rw[<-O]at ba
  have bf:=hid ((da.oth (k:=(w.heap.size+1+1)) (by have:=C.out;omega) 0 (.slice U aa.length Q)).oth (k:=(w.heap.size+1+1)) (by have:=C.out;omega) 1 (.bool ae))
  rw[<-O]at bf
  have bo:=hid (by rw[O];exact((aL.set 0 (.slice U aa.length Q)).set 1 (.bool ae)):Mq w0.heap.size (w.heap.size+1+1) #[.slice U aa.length Q,.bool ae] 95 bE aZ)
  have bC:=hid ((dM.out.low (g:=(w.heap.size+1+1)) (aY.bk.lt) 0 (.slice U aa.length Q)).low (g:=(w.heap.size+1+1)) (aY.bk.lt) 1 (.bool ae))
  rw[<-O]at bC
  have bG:=hid ((dz.set (g:=(w.heap.size+1+1)) (.inr (by have:=C.out;omega)) 0 (.slice U aa.length Q)).set (g:=(w.heap.size+1+1)) (.inr (by have:=C.out;omega)) 1 (.bool ae))
  rw[<-O]at bG
  have el:=hid (show aZ.heap.size=cz.heap.size by rw[O];simp)
  have aS:=hid (show RelIn M w0 l a cap N0 s j E pl pd false pg psg T v w ((w.heap.size+1+1)) aZ from⟨atQ (RX),bdQ (RX),bE,U,Q,_,ae,_,bK.out,bG.out,ba.out,bf.out,bo.out,bC.out,HBL.out,way_start HTM.out (dU.out) (OX.out) (SX.out)⟩)
  have HGX:=hid C.out
  have c4:=bK.c
  have cY:=ba.bk.c5
  have bV:=bf.bk.c2
  have cf:=bo.bk.c2
  rw[O]at c4 cY bV cf
  go_wp2
  rw[<-O]
  clear dE dX df dk dt c4 cY bV cf O
  obtain⟨gX,hgX⟩:∃gX,gX=(w.heap.size+1+1):=⟨_,rfl⟩
  rw[<-hgX]at aS HGX|-
  clear hgX ba bf bo bC bK bG
  go_loopw [8] (fun _ wr=>RelIn M w0 l a cap N0 s j E pl pd false pg psg T v w gX wr) (fun _ wr=>msr l.length w0.heap.size wr)
  case atStart=>exact aS.out
  case round=>
   obtain⟨m,bd,vr,aT,cT,tt,hh,B,hs,hg,hP,hR,hXB,hT,hBB,hway⟩:=hrel
   have Sr:=hid hs
   have Gr':=hid hg
   have Pr:=hid hP
   have Rr:=hid hR
   have XBr:=hid hXB
   have Xr:=hid hT
   have HBB:=hid hBB
   have HMS:=hid (msr_of hs)
   clear hs hg hP hR hXB hT hBB
   rcases hway with ⟨rfl,hTT,hwk⟩|⟨rfl,lv,tg,t',gf,hgt,hok,hTT,hgf,hst,hlv⟩
   ·
    have HTT:=hid hTT
    have HWK:=hid hwk
    clear hTT hwk
    have ar:=Sr.c
    have aw:=Pr.bk.c5
    have ao:=Rr.bk.c2
    have an:=Rr.bk.f
    have au:=XBr.bk.c2
    go_wp2
    clear ar aw ao an au
    obtain⟨eb,dd⟩:=(Rr.bk.put2 (.slice aT tt.length cT) (.bool hh)).c2
    exact bodyPost_ret (v:= .agg #[.slice aT tt.length cT,.bool hh]) (by simp[results,Tryz.results112,go_sem,eb,dd]) rfl (by rw[HTT.out];exact rq_end HLT.out (show Sq w0 l a cap N0 s m true _ _ from Sr.out) Gr'.out Rr.out Xr.out (by exact Nat.le_succ _) (by exact HBB.out) (HWK.out))
   ·
    have HGT:=hid hgt
    have HOK:=hid hok
    have HGF:=hid hgf
    have HTE:=hid hTT
    have hiso:=goes_5 hlv hst
    have HJL:=hid (show m<=l.length from hok.2.1)
    have HK:=hid (fun W2 (h2:Sq w0 l a cap N0 s m false vr W2)=>kind_any W2 h2 HC.out HL.out)
    by_cases h24:kd l m=24
    case neg=>
     have HTT:=hid (hTT.trans (go_stop (by rw[hiso];simp[h24]) (by omega)))
     obtain⟨c,hcc⟩:∃c,kd l m=c:=⟨_,rfl⟩
     rw[hcc]at HK h24
     obtain⟨q1,q2⟩:=ne_facts h24
     clear hiso hgt hok hgf hTT hst hlv h24 hcc
     have ar:=Sr.c
     have aw:=Pr.bk.c5
     have ao:=Rr.bk.c2
     have an:=Rr.bk.f
     have au:=XBr.bk.c2
     go_wp2_with fail
     clear ar aw ao an au
     refine(HK.out _ Sr.out).mono ?_
     rintro e bR ⟨rfl,o⟩
     have ai:=hid (Sr.keep o)
     have ax:=hid (Pr.keep o)
     have G:=hid (Rr.keep o)
     have al:=hid (XBr.keep o)
     have aQ:=hid (Xr.keep o)
     have aR:=hid (Gr'.trans (Gr.quiet o))
     clear o
     have a9:=ai.c
     have aD:=ax.bk.c5
     have aA:=G.bk.c2
     have aM:=G.bk.f
     have aC:=al.bk.c2
     go_wp2
     clear a9 aD aA aM aC
     obtain⟨d4,d7⟩:=(G.bk.put2 (.slice aT tt.length cT) (.bool hh)).c2
     exact bodyPost_ret (v:= .agg #[.slice aT tt.length cT,.bool hh]) (by simp[results,Tryz.results112,go_sem,d4,d7]) rfl (by rw[HTT.out];exact rq_end HLT.out (show Sq w0 l a cap N0 s m false _ _ from ai.out) aR.out G.out aQ.out (by exact Nat.le_succ _) (by exact HBB.out) (HGT.out))
    case pos=>
     have HGO:=hid (show goes (kd l m) lv tg (cp 5 false pg)=true by rw[hiso,h24];rfl)
     have aV:=hid h24
     have HML:=hid (kd_lt (l:=l) (i:=m) (by omega))
     have HWX:=hid (gt_wk1 hgt hok)
     rw[h24]at HK
     clear hiso hgt hok hgf hTT hst hlv h24
     by_cases h6:kd l (m+1)=6
     case pos=>
      have H6:=hid h6
      obtain⟨x,hx⟩:∃x,tx l (m+1)=x:=⟨_,rfl⟩
      obtain⟨y,hy⟩:∃y,pr.ta l (m+1)=y:=⟨_,rfl⟩
      have dy:=hid hx.symm
      have HTY:=hid (fun W2 (h2:Sq w0 l a cap N0 s (m+1) false vr W2)=>take_yes 6 W2 h2 HC.out HL.out (by decide) (by decide) h6)
      rw[hx,hy]at HTY
      clear h6 hx hy
      have ar:=Sr.c
      have aw:=Pr.bk.c5
      have ao:=Rr.bk.c2
      have an:=Rr.bk.f
      have au:=XBr.bk.c2
      go_wp2_with fail
      clear ar aw ao an au
      refine(HK.out _ Sr.out).mono ?_
      rintro e bR ⟨rfl,o⟩
      have ai:=hid (Sr.keep o)
      have ax:=hid (Pr.keep o)
      have G:=hid (Rr.keep o)
      have al:=hid (XBr.keep o)
      have aQ:=hid (Xr.keep o)
      have aR:=hid (Gr'.trans (Gr.quiet o))
      clear o
      have a9:=ai.c
      have aD:=ax.bk.c5
      have aA:=G.bk.c2
      have aM:=G.bk.f
      have aC:=al.bk.c2
      go_wp2_with fail
      clear a9 aD aA aM aC
      refine(take_yes 24 _ ai.out HC.out HL.out (by decide) (by decide) aV.out).mono ?_
      rintro e dK ⟨rfl,aO,D⟩
      have aH:=hid aO
      have aN:=hid (ax.go D)
      have a0:=hid (G.go D)
      have aE:=hid (al.go D)
      have bp:=hid (aQ.go D)
      have bF:=hid (aR.trans D)
      clear aO D
      have bD:=aH.c
      have b7:=aN.bk.c5
      have b3:=a0.bk.c2
      have bn:=a0.bk.f
      have bl:=aE.bk.c2
      go_wp2_with fail
      clear bD b7 b3 bn bl
      refine(HTY.out _ aH.out).mono ?_
      rintro e A ⟨rfl,s9,g9⟩
      have cm:=hid s9
      have cX:=hid (aN.go g9)
      have cB:=hid (a0.go g9)
      have bY:=hid (aE.go g9)
      have dF:=hid (bp.go g9)
      have dL:=hid (bF.trans g9)
      clear s9 g9
      have ee:=hid (show w.heap.size<A.heap.size from cX.bk.lt)
      have eh:=hid (show(w.heap.size+1)<A.heap.size from cB.bk.lt)
      have em:=hid (show gX<A.heap.size from bY.bk.lt)
      obtain⟨aq,a6⟩:∃Wx,Wx=A.alloc (.cells #[.int .i64 6,.string x,.int .i64 y] 86):=⟨_,rfl⟩
      have ay:Below A.heap.size A aq:=by rw[a6];exact(Below.refl _ _).alloc (Nat.le_refl _) _
      have cC:=hid (show Mq w0.heap.size A.heap.size #[.int .i64 6,.string x,.int .i64 y] 86 vr aq from Mq.of cm.out (by rw[a6];exact Bk.new _ _ _) (Nat.le_refl _))
      have dq:=hid (show aq.heap.size=A.heap.size+1 by rw[a6];simp)
      have bv:=hid (cm.keep ay)
      have c1:=hid (cX.keep ay)
      have cW:=hid (cB.keep ay)
      have bg:=hid (bY.keep ay)
      have ch:=hid (dF.keep ay)
      have dZ:=hid (dL.trans (Gr.quiet ay))
      clear ay
      have cr:=bv.c
      have co:=c1.bk.c5
      have cn:=cW.bk.c2
      have bO:=bg.bk.c2
      have cL:=bg.bk.f
      have cj:=cC.bk.c3
      rw[a6]at cr co cn bO cL cj
      go_wp2_with fail
      rw[<-a6]
      clear cr co cn bO cL cj a6
      have db:=ch.lies'
      refine(over1_any dq.out 13 0 x tt db (wk_mono HWX.out (by have:=bb.out;have:=HJL.out;omega))).mono ?_
      rintro e bJ ⟨T,z,r,rfl,hz,hp,cy,hr⟩
      have u2130:=Tq.of (bv.alloc (.cells #[.slice aT tt.length cT] 26)) hp hr
      rw[hz]at u2130
      have dI:=hid (show(aq.alloc (.cells #[.slice aT tt.length cT] 26)).heap.size=aq.heap.size+1 by simp)
      rw[dI.out]at u2130
      have dr:=hid u2130
      have ah:Below aq.heap.size aq bJ:=((Below.refl _ _).alloc (Nat.le_refl _) _).trans (cy.mono (by simp))
      have bw:=hid (bv.keep ah)
      have cD:=hid (c1.keep ah)
      have cO:=hid (cW.keep ah)
      have ap:=hid (bg.keep ah)
      have dV:=hid (cC.keep ah)
      have eg:=hid (ch.keep ah)
      have dH:=hid (dZ.trans (Gr.quiet ah))
      obtain⟨N,K,rfl,-⟩:=u2130.lies
      clear u2130 hz hp hr cy ah db
      have HXL:=hid (show gX<_ from bg.bk.lt)
      have HRL:=hid (show w.heap.size+1<_ from Nat.lt_trans HGX.out HXL.out)
      have d9:=bw.c
      have dh:=cD.bk.c5
      have dQ:=cO.bk.c2
      have dj:=ap.bk.c2
      have dg:=ap.bk.f
      have d3:=dV.bk.c3
      go_wp2
      clear d9 dh dQ dj dg d3
      go_roundw
      case rel=>
       obtain⟨bA,aj⟩:∃Wx,Wx=((bJ.setCell ⟨gX,0,none⟩ (.slice N (makeT (nd0 13 0 x) [tt]).length K)).setCell ⟨gX,1,none⟩ (.bool false)):=⟨_,rfl⟩
       have dn:=hid (by rw[aj];exact((bw.out).mset ap.out 0 _).mset (ap.set 0 (.slice N (makeT (nd0 13 0 x) [tt]).length K)) 1 _:Sq w0 l a cap N0 s (m+2) false vr bA)
       have ck:=hid ((cD.oth (k:=gX) (by have:=HGX.out;omega) 0 (.slice N (makeT (nd0 13 0 x) [tt]).length K)).oth (k:=gX) (by have:=HGX.out;omega) 1 (.bool false))
       rw[<-aj]at ck
       have cq:=hid ((cO.oth (k:=gX) (by have:=HGX.out;omega) 0 (.slice N (makeT (nd0 13 0 x) [tt]).length K)).oth (k:=gX) (by have:=HGX.out;omega) 1 (.bool false))
       rw[<-aj]at cq
       have dS:=hid (by rw[aj];exact((ap.set 0 (.slice N (makeT (nd0 13 0 x) [tt]).length K)).set 1 (.bool false)):Mq w0.heap.size gX #[.slice N (makeT (nd0 13 0 x) [tt]).length K,.bool false] 95 vr bA)
       have bU:=hid ((dr.out.low (g:=gX) (Nat.lt_succ_of_lt HXL.out) 0 (.slice N (makeT (nd0 13 0 x) [tt]).length K)).low (g:=gX) (Nat.lt_succ_of_lt HXL.out) 1 (.bool false))
       rw[<-aj]at bU
       have cb:=hid ((dH.set (g:=gX) (.inr (by have:=HGX.out;omega)) 0 (.slice N (makeT (nd0 13 0 x) [tt]).length K)).set (g:=gX) (.inr (by have:=HGX.out;omega)) 1 (.bool false))
       rw[<-aj]at cb
       have ef:=hid (show bA.heap.size=bJ.heap.size by rw[aj];simp)
       rw[<-aj]
       have hw:=way_in HM.out bb.out HGT.out HOK.out HTE.out HGF.out HGO.out aV.out x (fun _=>dy.out)
       rw[show innR l t' m=fin 13 0 (tx l (m+1)) [t'] (m+2)from if_pos H6.out]at hw
       exact⟨(m+2),false,vr,N,K,_,false,_,dn.out,cb.out,ck.out,cq.out,dS.out,bU.out,Nat.lt_succ_of_lt HRL.out,hw⟩
      case measure=>
       have bB:=(bw.mset ap.out 0 (.slice N (makeT (nd0 13 0 x) [tt]).length K)).mset (ap.set 0 _) 1 (.bool false)
       rw[msr_of bB,HMS.out]
       have:=HML.out
       have:=kd_lt (l:=l) (i:=m+1) (by have:=H6.out;omega)
       simp
       omega
     case neg=>
      have H6:=hid h6
      clear h6
      have ar:=Sr.c
      have aw:=Pr.bk.c5
      have ao:=Rr.bk.c2
      have an:=Rr.bk.f
      have au:=XBr.bk.c2
      go_wp2_with fail
      clear ar aw ao an au
      refine(HK.out _ Sr.out).mono ?_
      rintro e bR ⟨rfl,o⟩
      have ai:=hid (Sr.keep o)
      have ax:=hid (Pr.keep o)
      have G:=hid (Rr.keep o)
      have al:=hid (XBr.keep o)
      have aQ:=hid (Xr.keep o)
      have aR:=hid (Gr'.trans (Gr.quiet o))
      clear o
      have a9:=ai.c
      have aD:=ax.bk.c5
      have aA:=G.bk.c2
      have aM:=G.bk.f
      have aC:=al.bk.c2
      go_wp2_with fail
      clear a9 aD aA aM aC
      refine(take_yes 24 _ ai.out HC.out HL.out (by decide) (by decide) aV.out).mono ?_
      rintro e dK ⟨rfl,aO,D⟩
      have aH:=hid aO
      have aN:=hid (ax.go D)
      have a0:=hid (G.go D)
      have aE:=hid (al.go D)
      have bp:=hid (aQ.go D)
      have bF:=hid (aR.trans D)
      clear aO D
      have bD:=aH.c
      have b7:=aN.bk.c5
      have b3:=a0.bk.c2
      have bn:=a0.bk.f
      have bl:=aE.bk.c2
      go_wp2_with fail
      clear bD b7 b3 bn bl
      refine(take_no 6 _ aH.out HC.out HL.out (by decide) (by decide) (.inr H6.out)).mono ?_
      rintro e A ⟨rfl,c0,a4⟩
      have cF:=hid c0
      have cG:=hid (aN.go a4)
      have cM:=hid (a0.go a4)
      have bX:=hid (aE.go a4)
      have dm:=hid (bp.go a4)
      have dT:=hid (bF.trans a4)
      clear c0 a4
      have en:=hid (show w.heap.size<A.heap.size from cG.bk.lt)
      have eo:=hid (show(w.heap.size+1)<A.heap.size from cM.bk.lt)
      have ek:=hid (show gX<A.heap.size from bX.bk.lt)
      obtain⟨az,a2⟩:∃Wx,Wx=A.alloc (.cells #[.int .i64 0,.string ⟨#[]⟩,.int .i64 0] 86):=⟨_,rfl⟩
      have ak:Below A.heap.size A az:=by rw[a2];exact(Below.refl _ _).alloc (Nat.le_refl _) _
      have cU:=hid (show Mq w0.heap.size A.heap.size #[.int .i64 0,.string ⟨#[]⟩,.int .i64 0] 86 vr az from Mq.of cF.out (by rw[a2];exact Bk.new _ _ _) (Nat.le_refl _))
      have dN:=hid (show az.heap.size=A.heap.size+1 by rw[a2];simp)
      have bx:=hid (cF.keep ak)
      have bN:=hid (cG.keep ak)
      have cE:=hid (cM.keep ak)
      have aU:=hid (bX.keep ak)
      have cw:=hid (dm.keep ak)
      have dP:=hid (dT.trans (Gr.quiet ak))
      clear ak
      have cg:=bx.c
      have bW:=bN.bk.c5
      have cQ:=cE.bk.c2
      have bS:=aU.bk.c2
      have c9:=aU.bk.f
      have bZ:=cU.bk.c3
      rw[a2]at cg bW cQ bS c9 bZ
      go_wp2_with fail
      rw[<-a2]
      clear cg bW cQ bS c9 bZ a2
      have ct:=cw.lies'
      refine(over1_any dN.out 13 0 ⟨#[]⟩ tt ct (wk_mono HWX.out (by have:=bb.out;have:=HJL.out;omega))).mono ?_
      rintro e bH ⟨T,z,r,rfl,hz,hp,cK,hr⟩
      have u2160:=Tq.of (bx.alloc (.cells #[.slice aT tt.length cT] 26)) hp hr
      rw[hz]at u2160
      have d5:=hid (show(az.alloc (.cells #[.slice aT tt.length cT] 26)).heap.size=az.heap.size+1 by simp)
      rw[d5.out]at u2160
      have dG:=hid u2160
      have ag:Below az.heap.size az bH:=((Below.refl _ _).alloc (Nat.le_refl _) _).trans (cK.mono (by simp))
      have b2:=hid (bx.keep ag)
      have bP:=hid (bN.keep ag)
      have cx:=hid (cE.keep ag)
      have am:=hid (aU.keep ag)
      have dO:=hid (cU.keep ag)
      have ei:=hid (cw.keep ag)
      have d1:=hid (dP.trans (Gr.quiet ag))
      obtain⟨H,P,rfl,-⟩:=u2160.lies
      clear u2160 hz hp hr cK ag ct
      have HXL:=hid (show gX<_ from aU.bk.lt)
      have HRL:=hid (show w.heap.size+1<_ from Nat.lt_trans HGX.out HXL.out)
      have du:=b2.c
      have ea:=bP.bk.c5
      have dD:=cx.bk.c2
      have dW:=am.bk.c2
      have ds:=am.bk.f
      have de:=dO.bk.c3
      go_wp2
      clear du ea dD dW ds de
      go_roundw
      case rel=>
       obtain⟨b5,ab⟩:∃Wx,Wx=((bH.setCell ⟨gX,0,none⟩ (.slice H (makeT (nd0 13 0 ⟨#[]⟩) [tt]).length P)).setCell ⟨gX,1,none⟩ (.bool false)):=⟨_,rfl⟩
       have dc:=hid (by rw[ab];exact((b2.out).mset am.out 0 _).mset (am.set 0 (.slice H (makeT (nd0 13 0 ⟨#[]⟩) [tt]).length P)) 1 _:Sq w0 l a cap N0 s (m+1) true vr b5)
       have bT:=hid ((bP.oth (k:=gX) (by have:=HGX.out;omega) 0 (.slice H (makeT (nd0 13 0 ⟨#[]⟩) [tt]).length P)).oth (k:=gX) (by have:=HGX.out;omega) 1 (.bool false))
       rw[<-ab]at bT
       have cI:=hid ((cx.oth (k:=gX) (by have:=HGX.out;omega) 0 (.slice H (makeT (nd0 13 0 ⟨#[]⟩) [tt]).length P)).oth (k:=gX) (by have:=HGX.out;omega) 1 (.bool false))
       rw[<-ab]at cI
       have d2:=hid (by rw[ab];exact((am.set 0 (.slice H (makeT (nd0 13 0 ⟨#[]⟩) [tt]).length P)).set 1 (.bool false)):Mq w0.heap.size gX #[.slice H (makeT (nd0 13 0 ⟨#[]⟩) [tt]).length P,.bool false] 95 vr b5)
       have cd:=hid ((dG.out.low (g:=gX) (Nat.lt_succ_of_lt HXL.out) 0 (.slice H (makeT (nd0 13 0 ⟨#[]⟩) [tt]).length P)).low (g:=gX) (Nat.lt_succ_of_lt HXL.out) 1 (.bool false))
       rw[<-ab]at cd
       have ci:=hid ((d1.set (g:=gX) (.inr (by have:=HGX.out;omega)) 0 (.slice H (makeT (nd0 13 0 ⟨#[]⟩) [tt]).length P)).set (g:=gX) (.inr (by have:=HGX.out;omega)) 1 (.bool false))
       rw[<-ab]at ci
       have ej:=hid (show b5.heap.size=bH.heap.size by rw[ab];simp)
       rw[<-ab]
       have hw:=way_in HM.out bb.out HGT.out HOK.out HTE.out HGF.out HGO.out aV.out ⟨#[]⟩ (fun h=>absurd h H6.out)
       rw[show innR l t' m= .bad (m+1)from if_neg H6.out]at hw
       exact⟨(m+1),true,vr,H,P,_,false,_,dc.out,ci.out,bT.out,cI.out,d2.out,cd.out,Nat.lt_succ_of_lt HRL.out,hw⟩
      case measure=>
       have bB:=(b2.mset am.out 0 (.slice H (makeT (nd0 13 0 ⟨#[]⟩) [tt]).length P)).mset (am.set 0 _) 1 (.bool false)
       rw[msr_of bB,HMS.out]
       have:=HML.out
       skip
       simp
       try omega
end
section
variable {w0:World} {l:List Tk} {a:Option Addr} {cap:Nat} {N0:List Tk} {s j:Nat} {v:Value} {E:Ps->Nat->R} {M:Nat}
set_option maxHeartbeats 12800000 in
theorem in_yes(pl:Int)(pd pi pg psg:Bool)(w:World)(hst:Sq w0 l a cap N0 s j false v w)(hc:tk.Lies w0.heap.size w0 a l)(hl:l.length<=6000)(hM:∀t∈l,t.s.size<=M)(hC:pi=false/\comma l j=true)(RX:R)(hX:∀(v:Value) (w:World),Sq w0 l a cap N0 s j false v w->Calls Tryz.prog 63 #[.pointer (some ⟨w0.heap.size,0,none⟩),.agg #[.int .i64 6,.bool false,.bool pi,.bool pg,.bool false]] w (Rq w0 l a cap N0 s j v w RX))(oX:Ok M l j RX)(sX:∀lv tg t m,RX= .ok lv tg t m->goes (kd l m) lv tg (cp 6 pi pg)=false/\5<=lv)(hE:CallS w0 l a cap N0 s E (j+1))(oE:∀p i,i<=l.length->Ok M l i (E p i))(hN0:N0.length+l.length<=200000):
  Calls Tryz.prog 112 #[.pointer (some ⟨w0.heap.size,0,none⟩),.agg #[.int .i64 pl,.bool pd,.bool pi,.bool pg,.bool psg]] w (Rq w0 l a cap N0 s j v w (inR E l pi pg j RX)):=by
 have HC:=hid hc
 have HL:=hid (show l.length<=100000 by omega)
 have aO:=hid hl
 have HX:=hid hX
 have OX:=hid oX
 have HAT:=hid (ok_at oX)
 have SX:=hid sX
 have HM:=hid hM
 have eW:=hid hN0
 obtain⟨T,hT⟩:∃T,T=inR E l pi pg j RX:=⟨_,rfl⟩
 have HT:=hid hT
 rw[<-hT]
 obtain⟨W,hW⟩:∃Wx,Wx=(w.alloc (.cells #[.int .i64 pl,.bool pd,.bool pi,.bool pg,.bool psg] 44)).alloc (.cells #[.slice none 0 0,.bool false] 95):=⟨_,rfl⟩
 have hB:Below w.heap.size w W:=by rw[hW];exact((Below.refl _ _).alloc (Nat.le_refl _) _).alloc (by simp) _
 have P0:=hid (show Mq w0.heap.size w.heap.size #[.int .i64 pl,.bool pd,.bool pi,.bool pg,.bool psg] 44 v W from Mq.of hst (by rw[hW];exact(Bk.new _ _ _).alloc _) (Nat.le_refl _))
 have R0:=hid (show Mq w0.heap.size (w.heap.size+1) #[.slice none 0 0,.bool false] 95 v W from Mq.of hst (by rw[hW];have:=Bk.new (w.alloc (.cells #[.int .i64 pl,.bool pd,.bool pi,.bool pg,.bool psg] 44)) #[.slice none 0 0,.bool false] 95;simpa using this) (Nat.le_succ _))
 have S0:=hid (hst.keep hB)
 have G0:=hid (show Gr (X0 w0.heap.size) v v w W from Gr.quiet hB)
 have HLT:=hid hst.lt
 have HBS:=hid hB.size
 have HJN:=hid hst.jn
 have HWS:=hid (show W.heap.size=w.heap.size+2 by rw[hW];simp)
 clear hB hst
 obtain⟨W2,bM⟩:∃W2,W2=W.alloc (.cells #[.slice none 0 0,.bool false] 95):=⟨_,rfl⟩
 have bL:Below W.heap.size W W2:=by rw[bM];exact(Below.refl _ _).alloc (Nat.le_refl _) _
 have HSW:=hid (show W.heap.size=w.heap.size+1+1 by rw[hW];simp)
 have dB:=hid (show Mq w0.heap.size (w.heap.size+1+1) #[.slice none 0 0,.bool false] 95 v W2 by rw[<-HSW.out];exact Mq.of S0.out (by rw[bM];exact Bk.new _ _ _) (Nat.le_refl _))
 have F:=hid (show w.heap.size+1<w.heap.size+1+1 by omega)
 have S1:=hid (S0.keep bL)
 have P2:=hid (P0.keep bL)
 have R3:=hid (R0.keep bL)
 have G4:=hid (G0.trans (Gr.quiet bL))
 obtain⟨rfl,hcm⟩:=hC
 have HCM:=hid hcm
 have HCA:=hid (comma_any W2 S1.out hc (by omega))
 rw[hcm]at HCA
 have HJ:=hid (kd_lt (l:=l) (i:=j) (by unfold comma at hcm;rw[Bool.and_eq_true,beq_iff_eq]at hcm;omega))
 have eC:=hid (show kd l j=32 by unfold comma at hcm;rw[Bool.and_eq_true,beq_iff_eq]at hcm;exact hcm.1)
 have HLS:=hid (fun v2 W2 (h2:Sq w0 l a cap N0 s (j+1) false v2 W2)=>list_run 33 1 W2 h2 hc hl hE oE hN0 (.inl rfl) (.inl rfl))
 have HMO:=hid (multi_ok oE hM (by omega) HJ.out)
 have HLE:=hid (lend_le (endk:=33) oE HJ.out)
 have HTM:=hid (hT.trans (inR_yes ⟨rfl,hcm⟩))
 clear hX oX hE oE hc hl hM sX hN0 hT bL hcm
 obtain⟨c5,c6,c7,c8⟩:=S1.c
 have m9:=P2.bk.c5
 have dJ:=R3.bk.c2
 have dc:=dB.bk.c2
 rw[bM,hW]at c5 c6 c7 c8 m9 dJ dc
 go_enter Tryz.func112,Tryz.ntmps112
 go_wp2_with fail
 rw[<-hW,<-bM]
 clear hW bM c5 c6 c7 c8 m9 dJ dc
 refine(HCA.out).mono ?_
 rintro e fl ⟨rfl,b4⟩
 have bY:=hid (S1.keep b4)
 have cf:=hid (P2.keep b4)
 have ca:=hid (R3.keep b4)
 have cb:=hid (dB.keep b4)
 have cW:=hid (G4.trans (Gr.quiet b4))
 clear b4
 have ei:=bY.c
 have en:=cf.bk.c5
 have em:=ca.bk.c2
 have eQ:=cb.bk.c2
 go_upto_if 16 with (fail)
 clear ei en em eQ
 go_cut [6,7]from 17 to 60 (fun _ _ wx=>RelIn M w0 l a cap N0 s j E pl pd false pg psg T v w (w.heap.size+1+1) wx)
 case first=>
  have ay:=bY.c
  have ax:=cf.bk.c5
  have az:=ca.bk.c2
  have e0:=cb.bk.c2
  go_wp2_with fail
  clear ay ax az e0
  refine(take_yes 32 _ bY.out HC.out HL.out (by decide) (by decide) eC.out).mono ?_
  rintro e dP ⟨rfl,de,bT⟩
  have cG:=hid de
  have cR:=hid (cf.go bT)
  have cw:=hid (ca.go bT)
  have c9:=hid (cb.go bT)
  have ev:=hid (cW.trans bT)
  clear de bT
  have ew:=cG.c
  have e4:=cR.bk.c5
  have ej:=cw.bk.c2
  have bh:=c9.bk.c2
  go_wp2_with fail
  clear ew e4 ej bh
  refine(HLS.out _ _ cG.out).mono ?_
  rintro e fc ⟨a5,c5,o,v5,rfl,s5,g5,l5,k5,x5⟩
  have S5:=hid s5
  have K5:=hid k5
  have X5:=hid x5
  have fh:=hid (show w.heap.size+1<dP.heap.size from cw.bk.lt)
  have eV:=hid (show w.heap.size+1+1<dP.heap.size from c9.bk.lt)
  have aJ:=hid (cR.go g5)
  have a9:=hid (cw.go g5)
  have aY:=hid (c9.go g5)
  have cd:=hid (ev.trans g5)
  have L5:=hid l5
  clear s5 g5 l5 k5 x5
  obtain⟨LP,hLP⟩:∃LP,els E l 6 6 [] (j+1)=LP:=⟨_,rfl⟩
  obtain⟨m,hm⟩:∃m,(Lend l 33 LP).1=m:=⟨_,rfl⟩
  obtain⟨b5,aB⟩:∃b,(Lend l 33 LP).2=b:=⟨_,rfl⟩
  rw[hLP]at S5 K5 X5 HLE
  rw[hm,aB]at S5
  rw[hm]at K5 HLE
  have hmu:multi E l j=multiR l LP:=by rw[multi_eq,hLP]
  have HMB:=hid (show m<=l.length from S5.jn)
  have HJM:=hid HLE.out
  cases b5 with
  |true=>
   have HMUL:=hid (show multi E l j= .bad m by
    rw[hmu]
    clear S5 K5 X5 HLE
    cases LP with
    |bad m'=>rw[<-hm];rfl
    |ok ps m'=>
     by_cases h:kd l m'=33
     ·have e:(Lend l 33 (.ok ps m'))=(m'+1,false):=if_pos h
      rw[e]at aB
      cases aB
     ·have e:(Lend l 33 (.ok ps m'))=(m',true):=if_neg h
      rw[e]at hm
      rw[<-hm]
      exact if_neg h)
   clear hmu hm aB hLP
   have bm:=S5.c
   have bj:=aJ.bk.c5
   have bg:=a9.bk.c2
   have bo:=aY.bk.c2
   go_wp2_with fail
   clear bm bj bg bo
   refine(take_no 24 _ S5.out HC.out HL.out (by decide) (by decide) (.inl rfl)).mono ?_
   rintro e c0 ⟨rfl,al,D⟩
   have ak:=hid al
   have af:=hid (aJ.go D)
   have an:=hid (a9.go D)
   have ai:=hid (aY.go D)
   have bq:=hid (L5.go D)
   have ba:=hid (cd.trans D)
   clear al D
   have bu:=ak.c
   have bt:=af.bk.c5
   have bc:=an.bk.c2
   have be:=ai.bk.c2
   go_wp2_with fail
   clear bu bt bc be
   refine(take_no 6 _ ak.out HC.out HL.out (by decide) (by decide) (.inl rfl)).mono ?_
   rintro e A ⟨rfl,aM,J⟩
   have aU:=hid aM
   have aC:=hid (af.go J)
   have aW:=hid (an.go J)
   have aL:=hid (ai.go J)
   have bU:=hid (bq.go J)
   have bD:=hid (ba.trans J)
   clear aM J
   have dM:=hid (show w.heap.size<A.heap.size from aC.bk.lt)
   have dQ:=hid (show(w.heap.size+1)<A.heap.size from aW.bk.lt)
   have cY:=hid (show(w.heap.size+1+1)<A.heap.size from aL.bk.lt)
   obtain⟨O,K⟩:∃Wx,Wx=A.alloc (.cells #[.int .i64 0,.string ⟨#[]⟩,.int .i64 0] 86):=⟨_,rfl⟩
   have H:Below A.heap.size A O:=by rw[K];exact(Below.refl _ _).alloc (Nat.le_refl _) _
   have b9:=hid (show Mq w0.heap.size A.heap.size #[.int .i64 0,.string ⟨#[]⟩,.int .i64 0] 86 v5 O from Mq.of aU.out (by rw[K];exact Bk.new _ _ _) (Nat.le_refl _))
   have dq:=hid (show O.heap.size=A.heap.size+1 by rw[K];simp)
   have ah:=hid (aU.keep H)
   have a6:=hid (aC.keep H)
   have am:=hid (aW.keep H)
   have ag:=hid (aL.keep H)
   have bI:=hid (bU.keep H)
   have bK:=hid (bD.trans (Gr.quiet H))
   clear H
   have a8:=ah.c
   have aK:=a6.bk.c5
   have aR:=am.bk.c2
   have a1:=ag.bk.c2
   have aV:=b9.bk.c3
   rw[K]at a8 aK aR a1 aV
   go_wp2_with fail
   rw[<-K]
   clear a8 aK aR a1 aV K
   refine(nd.make_all (nd0 13 0 ⟨#[]⟩) o a5 c5 _ bI.parts (Nat.le_trans K5.out.2.2 (by have:=HMB.out;have:=aO.out;omega)) (Nat.le_trans K5.out.1 (by decide)) (fun q hq t ht=>Nat.le_trans (K5.out.2.1 q hq t ht) (by decide))).mono ?_
   rintro e aH ⟨T6,z6,r6,rfl,Q,U,b6,ae⟩
   obtain⟨aT,cT,eT⟩:=U.form
   rw[show z6.length=(makeT (nd0 13 0 ⟨#[]⟩) o).length by rw[<-Q,List.length_map]]at eT
   subst eT
   have H6:=Tq.of ah.out U ae
   rw[Q]at H6
   have HRB:=hid (show w.heap.size+1<O.heap.size from am.bk.lt)
   have HXB:=hid (show w.heap.size+1+1<O.heap.size from ag.bk.lt)
   have aE:=hid (ah.keep b6)
   have a3:=hid (a6.keep b6)
   have aG:=hid (am.keep b6)
   have N:=hid (ag.keep b6)
   have bJ:=hid (bK.trans (Gr.quiet b6))
   have T6:=hid H6
   clear H6 Q U ae b6
   have bC:=aE.c
   have bG:=a3.bk.c5
   have bS:=aG.bk.c2
   have br:=N.bk.c2
   have bA:=N.bk.f
   obtain⟨V,C⟩:∃Wx,Wx=((aH.setCell ⟨(w.heap.size+1+1),0,none⟩ (.slice aT (makeT (nd0 13 0 ⟨#[]⟩) o).length cT)).setCell ⟨(w.heap.size+1+1),1,none⟩ (.bool false)):=⟨_,rfl⟩
   have a0:=hid (by rw[C];exact((aE.out).mset N.out 0 _).mset (N.set 0 (.slice aT (makeT (nd0 13 0 ⟨#[]⟩) o).length cT)) 1 _:Sq w0 l a cap N0 s m true v5 V)
   have aj:=hid ((a3.oth (k:=(w.heap.size+1+1)) (by have:=F.out;omega) 0 (.slice aT (makeT (nd0 13 0 ⟨#[]⟩) o).length cT)).oth (k:=(w.heap.size+1+1)) (by have:=F.out;omega) 1 (.bool false))
   rw[<-C]at aj
   have ad:=hid ((aG.oth (k:=(w.heap.size+1+1)) (by have:=F.out;omega) 0 (.slice aT (makeT (nd0 13 0 ⟨#[]⟩) o).length cT)).oth (k:=(w.heap.size+1+1)) (by have:=F.out;omega) 1 (.bool false))
   rw[<-C]at ad
   have a7:=hid (by rw[C];exact((N.set 0 (.slice aT (makeT (nd0 13 0 ⟨#[]⟩) o).length cT)).set 1 (.bool false)):Mq w0.heap.size (w.heap.size+1+1) #[.slice aT (makeT (nd0 13 0 ⟨#[]⟩) o).length cT,.bool false] 95 v5 V)
   have aQ:=hid ((T6.low (g:=(w.heap.size+1+1)) (HXB.out) 0 (.slice aT (makeT (nd0 13 0 ⟨#[]⟩) o).length cT)).low (g:=(w.heap.size+1+1)) (HXB.out) 1 (.bool false))
   rw[<-C]at aQ
   have a2:=hid ((bJ.set (g:=(w.heap.size+1+1)) (.inr (by have:=F.out;omega)) 0 (.slice aT (makeT (nd0 13 0 ⟨#[]⟩) o).length cT)).set (g:=(w.heap.size+1+1)) (.inr (by have:=F.out;omega)) 1 (.bool false))
   rw[<-C]at a2
   have cU:=hid (show V.heap.size=aH.heap.size by rw[C];simp)
   have HMU:=hid (show multi E l j= .bad m from HMUL.out)
   rw[HMU.out]at HTM HMO
   have au:=hid (show RelIn M w0 l a cap N0 s j E pl pd false pg psg T v w ((w.heap.size+1+1)) V from⟨atQ (.bad m),bdQ (.bad m),v5,aT,cT,_,false,_,a0.out,a2.out,aj.out,ad.out,a7.out,aQ.out,HRB.out,way_start HTM.out ((wk_make K5.out.2.1 K5.out.1 (by have:=K5.out.2.2;have:=HJM.out;omega):Wk (2*(m-j)) _)) (HMO.out) (fun lv tg t m h=>multi_stuck (HMU.trans h))⟩)
   have a4:=a0.c
   have aP:=aj.bk.c5
   have aS:=ad.bk.c2
   have aI:=a7.bk.c2
   rw[C]at a4 aP aS aI
   go_wp2
   go_meet
   rw[<-C]
   clear bC bG bS br bA a4 aP aS aI C
   exact au.out
  |false=>
   obtain⟨ps,hps,hmul⟩:∃ps,o=ps/\multi E l j=inn l ps m:=by
    have hx:=X5.out
    clear S5 K5 X5 HLE
    cases LP with
    |bad m'=>cases aB
    |ok ps m'=>
     by_cases h:kd l m'=33
     ·have e:(Lend l 33 (.ok ps m'))=(m'+1,false):=if_pos h
      have e2:Lex l 33 (.ok ps m')=some ps:=if_pos h
      rw[e]at hm
      refine⟨ps,hx ps e2, ?_⟩
      rw[hmu,<-hm]
      exact if_pos h
     ·have e:(Lend l 33 (.ok ps m'))=(m',true):=if_neg h
      rw[e]at aB
      cases aB
   subst hps
   have cA:=hid hmul
   clear hmu hm aB hLP hmul
   by_cases h24:kd l m=24
   case neg=>
    have HMUL:=hid (show multi E l j= .bad m from cA.trans (if_neg h24))
    have ac:=hid h24
    clear h24
    have bm:=S5.c
    have bj:=aJ.bk.c5
    have bg:=a9.bk.c2
    have bo:=aY.bk.c2
    go_wp2_with fail
    clear bm bj bg bo
    refine(take_no 24 _ S5.out HC.out HL.out (by decide) (by decide) (.inr ac.out)).mono ?_
    rintro e c0 ⟨rfl,al,D⟩
    have ak:=hid al
    have af:=hid (aJ.go D)
    have an:=hid (a9.go D)
    have ai:=hid (aY.go D)
    have bq:=hid (L5.go D)
    have ba:=hid (cd.trans D)
    clear al D
    have bu:=ak.c
    have bt:=af.bk.c5
    have bc:=an.bk.c2
    have be:=ai.bk.c2
    go_wp2_with fail
    clear bu bt bc be
    refine(take_no 6 _ ak.out HC.out HL.out (by decide) (by decide) (.inl rfl)).mono ?_
    rintro e A ⟨rfl,aM,J⟩
    have aU:=hid aM
    have aC:=hid (af.go J)
    have aW:=hid (an.go J)
    have aL:=hid (ai.go J)
    have bU:=hid (bq.go J)
    have bD:=hid (ba.trans J)
    clear aM J
    have dM:=hid (show w.heap.size<A.heap.size from aC.bk.lt)
    have dQ:=hid (show(w.heap.size+1)<A.heap.size from aW.bk.lt)
    have cY:=hid (show(w.heap.size+1+1)<A.heap.size from aL.bk.lt)
    obtain⟨O,K⟩:∃Wx,Wx=A.alloc (.cells #[.int .i64 0,.string ⟨#[]⟩,.int .i64 0] 86):=⟨_,rfl⟩
    have H:Below A.heap.size A O:=by rw[K];exact(Below.refl _ _).alloc (Nat.le_refl _) _
    have b9:=hid (show Mq w0.heap.size A.heap.size #[.int .i64 0,.string ⟨#[]⟩,.int .i64 0] 86 v5 O from Mq.of aU.out (by rw[K];exact Bk.new _ _ _) (Nat.le_refl _))
    have dq:=hid (show O.heap.size=A.heap.size+1 by rw[K];simp)
    have ah:=hid (aU.keep H)
    have a6:=hid (aC.keep H)
    have am:=hid (aW.keep H)
    have ag:=hid (aL.keep H)
    have bI:=hid (bU.keep H)
    have bK:=hid (bD.trans (Gr.quiet H))
    clear H
    have a8:=ah.c
    have aK:=a6.bk.c5
    have aR:=am.bk.c2
    have a1:=ag.bk.c2
    have aV:=b9.bk.c3
    rw[K]at a8 aK aR a1 aV
    go_wp2_with fail
    rw[<-K]
    clear a8 aK aR a1 aV K
    refine(nd.make_all (nd0 13 0 ⟨#[]⟩) o a5 c5 _ bI.parts (Nat.le_trans K5.out.2.2 (by have:=HMB.out;have:=aO.out;omega)) (Nat.le_trans K5.out.1 (by decide)) (fun q hq t ht=>Nat.le_trans (K5.out.2.1 q hq t ht) (by decide))).mono ?_
    rintro e aH ⟨T6,z6,r6,rfl,Q,U,b6,ae⟩
    obtain⟨aT,cT,eT⟩:=U.form
    rw[show z6.length=(makeT (nd0 13 0 ⟨#[]⟩) o).length by rw[<-Q,List.length_map]]at eT
    subst eT
    have H6:=Tq.of ah.out U ae
    rw[Q]at H6
    have HRB:=hid (show w.heap.size+1<O.heap.size from am.bk.lt)
    have HXB:=hid (show w.heap.size+1+1<O.heap.size from ag.bk.lt)
    have aE:=hid (ah.keep b6)
    have a3:=hid (a6.keep b6)
    have aG:=hid (am.keep b6)
    have N:=hid (ag.keep b6)
    have bJ:=hid (bK.trans (Gr.quiet b6))
    have T6:=hid H6
    clear H6 Q U ae b6
    have bC:=aE.c
    have bG:=a3.bk.c5
    have bS:=aG.bk.c2
    have br:=N.bk.c2
    have bA:=N.bk.f
    obtain⟨V,C⟩:∃Wx,Wx=((aH.setCell ⟨(w.heap.size+1+1),0,none⟩ (.slice aT (makeT (nd0 13 0 ⟨#[]⟩) o).length cT)).setCell ⟨(w.heap.size+1+1),1,none⟩ (.bool false)):=⟨_,rfl⟩
    have a0:=hid (by rw[C];exact((aE.out).mset N.out 0 _).mset (N.set 0 (.slice aT (makeT (nd0 13 0 ⟨#[]⟩) o).length cT)) 1 _:Sq w0 l a cap N0 s m true v5 V)
    have aj:=hid ((a3.oth (k:=(w.heap.size+1+1)) (by have:=F.out;omega) 0 (.slice aT (makeT (nd0 13 0 ⟨#[]⟩) o).length cT)).oth (k:=(w.heap.size+1+1)) (by have:=F.out;omega) 1 (.bool false))
    rw[<-C]at aj
    have ad:=hid ((aG.oth (k:=(w.heap.size+1+1)) (by have:=F.out;omega) 0 (.slice aT (makeT (nd0 13 0 ⟨#[]⟩) o).length cT)).oth (k:=(w.heap.size+1+1)) (by have:=F.out;omega) 1 (.bool false))
    rw[<-C]at ad
    have a7:=hid (by rw[C];exact((N.set 0 (.slice aT (makeT (nd0 13 0 ⟨#[]⟩) o).length cT)).set 1 (.bool false)):Mq w0.heap.size (w.heap.size+1+1) #[.slice aT (makeT (nd0 13 0 ⟨#[]⟩) o).length cT,.bool false] 95 v5 V)
    have aQ:=hid ((T6.low (g:=(w.heap.size+1+1)) (HXB.out) 0 (.slice aT (makeT (nd0 13 0 ⟨#[]⟩) o).length cT)).low (g:=(w.heap.size+1+1)) (HXB.out) 1 (.bool false))
    rw[<-C]at aQ
    have a2:=hid ((bJ.set (g:=(w.heap.size+1+1)) (.inr (by have:=F.out;omega)) 0 (.slice aT (makeT (nd0 13 0 ⟨#[]⟩) o).length cT)).set (g:=(w.heap.size+1+1)) (.inr (by have:=F.out;omega)) 1 (.bool false))
    rw[<-C]at a2
    have cU:=hid (show V.heap.size=aH.heap.size by rw[C];simp)
    have HMU:=hid (show multi E l j= .bad m from HMUL.out)
    rw[HMU.out]at HTM HMO
    have au:=hid (show RelIn M w0 l a cap N0 s j E pl pd false pg psg T v w ((w.heap.size+1+1)) V from⟨atQ (.bad m),bdQ (.bad m),v5,aT,cT,_,false,_,a0.out,a2.out,aj.out,ad.out,a7.out,aQ.out,HRB.out,way_start HTM.out ((wk_make K5.out.2.1 K5.out.1 (by have:=K5.out.2.2;have:=HJM.out;omega):Wk (2*(m-j)) _)) (HMO.out) (fun lv tg t m h=>multi_stuck (HMU.trans h))⟩)
    have a4:=a0.c
    have aP:=aj.bk.c5
    have aS:=ad.bk.c2
    have aI:=a7.bk.c2
    rw[C]at a4 aP aS aI
    go_wp2
    go_meet
    rw[<-C]
    clear bC bG bS br bA a4 aP aS aI C
    exact au.out
   case pos=>
    have ac:=hid h24
    clear h24
    by_cases h6:kd l (m+1)=6
    case neg=>
     have HMUL:=hid (show multi E l j= .bad (m+1)from cA.trans ((if_pos ac.out).trans (if_neg h6)))
     have H6:=hid h6
     clear h6
     have bm:=S5.c
     have bj:=aJ.bk.c5
     have bg:=a9.bk.c2
     have bo:=aY.bk.c2
     go_wp2_with fail
     clear bm bj bg bo
     refine(take_yes 24 _ S5.out HC.out HL.out (by decide) (by decide) ac.out).mono ?_
     rintro e c0 ⟨rfl,al,D⟩
     have ak:=hid al
     have af:=hid (aJ.go D)
     have an:=hid (a9.go D)
     have ai:=hid (aY.go D)
     have bq:=hid (L5.go D)
     have ba:=hid (cd.trans D)
     clear al D
     have bu:=ak.c
     have bt:=af.bk.c5
     have bc:=an.bk.c2
     have be:=ai.bk.c2
     go_wp2_with fail
     clear bu bt bc be
     refine(take_no 6 _ ak.out HC.out HL.out (by decide) (by decide) (.inr H6.out)).mono ?_
     rintro e A ⟨rfl,aM,J⟩
     have aU:=hid aM
     have aC:=hid (af.go J)
     have aW:=hid (an.go J)
     have aL:=hid (ai.go J)
     have bU:=hid (bq.go J)
     have bD:=hid (ba.trans J)
     clear aM J
     have dM:=hid (show w.heap.size<A.heap.size from aC.bk.lt)
     have dQ:=hid (show(w.heap.size+1)<A.heap.size from aW.bk.lt)
     have cY:=hid (show(w.heap.size+1+1)<A.heap.size from aL.bk.lt)
     obtain⟨O,K⟩:∃Wx,Wx=A.alloc (.cells #[.int .i64 0,.string ⟨#[]⟩,.int .i64 0] 86):=⟨_,rfl⟩
     have H:Below A.heap.size A O:=by rw[K];exact(Below.refl _ _).alloc (Nat.le_refl _) _
     have b9:=hid (show Mq w0.heap.size A.heap.size #[.int .i64 0,.string ⟨#[]⟩,.int .i64 0] 86 v5 O from Mq.of aU.out (by rw[K];exact Bk.new _ _ _) (Nat.le_refl _))
     have dq:=hid (show O.heap.size=A.heap.size+1 by rw[K];simp)
     have ah:=hid (aU.keep H)
     have a6:=hid (aC.keep H)
     have am:=hid (aW.keep H)
     have ag:=hid (aL.keep H)
     have bI:=hid (bU.keep H)
     have bK:=hid (bD.trans (Gr.quiet H))
     clear H
     have a8:=ah.c
     have aK:=a6.bk.c5
     have aR:=am.bk.c2
     have a1:=ag.bk.c2
     have aV:=b9.bk.c3
     rw[K]at a8 aK aR a1 aV
     go_wp2_with fail
     rw[<-K]
     clear a8 aK aR a1 aV K
     refine(nd.make_all (nd0 13 0 ⟨#[]⟩) o a5 c5 _ bI.parts (Nat.le_trans K5.out.2.2 (by have:=HMB.out;have:=aO.out;omega)) (Nat.le_trans K5.out.1 (by decide)) (fun q hq t ht=>Nat.le_trans (K5.out.2.1 q hq t ht) (by decide))).mono ?_
     rintro e aH ⟨T6,z6,r6,rfl,Q,U,b6,ae⟩
     obtain⟨aT,cT,eT⟩:=U.form
     rw[show z6.length=(makeT (nd0 13 0 ⟨#[]⟩) o).length by rw[<-Q,List.length_map]]at eT
     subst eT
     have H6:=Tq.of ah.out U ae
     rw[Q]at H6
     have HRB:=hid (show w.heap.size+1<O.heap.size from am.bk.lt)
     have HXB:=hid (show w.heap.size+1+1<O.heap.size from ag.bk.lt)
     have aE:=hid (ah.keep b6)
     have a3:=hid (a6.keep b6)
     have aG:=hid (am.keep b6)
     have N:=hid (ag.keep b6)
     have bJ:=hid (bK.trans (Gr.quiet b6))
     have T6:=hid H6
     clear H6 Q U ae b6
     have bC:=aE.c
     have bG:=a3.bk.c5
     have bS:=aG.bk.c2
     have br:=N.bk.c2
     have bA:=N.bk.f
     obtain⟨V,C⟩:∃Wx,Wx=((aH.setCell ⟨(w.heap.size+1+1),0,none⟩ (.slice aT (makeT (nd0 13 0 ⟨#[]⟩) o).length cT)).setCell ⟨(w.heap.size+1+1),1,none⟩ (.bool false)):=⟨_,rfl⟩
     have a0:=hid (by rw[C];exact((aE.out).mset N.out 0 _).mset (N.set 0 (.slice aT (makeT (nd0 13 0 ⟨#[]⟩) o).length cT)) 1 _:Sq w0 l a cap N0 s (m+1) true v5 V)
     have aj:=hid ((a3.oth (k:=(w.heap.size+1+1)) (by have:=F.out;omega) 0 (.slice aT (makeT (nd0 13 0 ⟨#[]⟩) o).length cT)).oth (k:=(w.heap.size+1+1)) (by have:=F.out;omega) 1 (.bool false))
     rw[<-C]at aj
     have ad:=hid ((aG.oth (k:=(w.heap.size+1+1)) (by have:=F.out;omega) 0 (.slice aT (makeT (nd0 13 0 ⟨#[]⟩) o).length cT)).oth (k:=(w.heap.size+1+1)) (by have:=F.out;omega) 1 (.bool false))
     rw[<-C]at ad
     have a7:=hid (by rw[C];exact((N.set 0 (.slice aT (makeT (nd0 13 0 ⟨#[]⟩) o).length cT)).set 1 (.bool false)):Mq w0.heap.size (w.heap.size+1+1) #[.slice aT (makeT (nd0 13 0 ⟨#[]⟩) o).length cT,.bool false] 95 v5 V)
     have aQ:=hid ((T6.low (g:=(w.heap.size+1+1)) (HXB.out) 0 (.slice aT (makeT (nd0 13 0 ⟨#[]⟩) o).length cT)).low (g:=(w.heap.size+1+1)) (HXB.out) 1 (.bool false))
     rw[<-C]at aQ
     have a2:=hid ((bJ.set (g:=(w.heap.size+1+1)) (.inr (by have:=F.out;omega)) 0 (.slice aT (makeT (nd0 13 0 ⟨#[]⟩) o).length cT)).set (g:=(w.heap.size+1+1)) (.inr (by have:=F.out;omega)) 1 (.bool false))
     rw[<-C]at a2
     have cU:=hid (show V.heap.size=aH.heap.size by rw[C];simp)
     have HMU:=hid (show multi E l j= .bad (m+1)from HMUL.out)
     rw[HMU.out]at HTM HMO
     have au:=hid (show RelIn M w0 l a cap N0 s j E pl pd false pg psg T v w ((w.heap.size+1+1)) V from⟨atQ (.bad (m+1)),bdQ (.bad (m+1)),v5,aT,cT,_,false,_,a0.out,a2.out,aj.out,ad.out,a7.out,aQ.out,HRB.out,way_start HTM.out ((wk_make K5.out.2.1 K5.out.1 (by have:=K5.out.2.2;have:=HJM.out;omega):Wk (2*(m+1-j)) _)) (HMO.out) (fun lv tg t m h=>multi_stuck (HMU.trans h))⟩)
     have a4:=a0.c
     have aP:=aj.bk.c5
     have aS:=ad.bk.c2
     have aI:=a7.bk.c2
     rw[C]at a4 aP aS aI
     go_wp2
     go_meet
     rw[<-C]
     clear bC bG bS br bA a4 aP aS aI C
     exact au.out
    case pos=>
     have HMUL:=hid (show multi E l j=fin 13 0 (tx l (m+1)) o (m+2)from cA.trans ((if_pos ac.out).trans (if_pos h6)))
     obtain⟨x,hx⟩:∃x,tx l (m+1)=x:=⟨_,rfl⟩
     obtain⟨y,hy⟩:∃y,pr.ta l (m+1)=y:=⟨_,rfl⟩
     have HTY:=hid (fun v2 W2 (h2:Sq w0 l a cap N0 s (m+1) false v2 W2)=>take_yes 6 W2 h2 HC.out HL.out (by decide) (by decide) h6)
     rw[hx,hy]at HTY
     rw[hx]at HMUL
     clear h6 hx hy
     have bm:=S5.c
     have bj:=aJ.bk.c5
     have bg:=a9.bk.c2
     have bo:=aY.bk.c2
     go_wp2_with fail
     clear bm bj bg bo
     refine(take_yes 24 _ S5.out HC.out HL.out (by decide) (by decide) ac.out).mono ?_
     rintro e c0 ⟨rfl,al,D⟩
     have ak:=hid al
     have af:=hid (aJ.go D)
     have an:=hid (a9.go D)
     have ai:=hid (aY.go D)
     have bq:=hid (L5.go D)
     have ba:=hid (cd.trans D)
     clear al D
     have bu:=ak.c
     have bt:=af.bk.c5
     have bc:=an.bk.c2
     have be:=ai.bk.c2
     go_wp2_with fail
     clear bu bt bc be
     refine(HTY.out _ _ ak.out).mono ?_
     rintro e A ⟨rfl,s9,g9⟩
     have bR:=hid s9
     have cF:=hid (af.go g9)
     have df:=hid (an.go g9)
     have cH:=hid (ai.go g9)
     have eh:=hid (bq.go g9)
     have dV:=hid (ba.trans g9)
     clear s9 g9
     have fb:=hid (show w.heap.size<A.heap.size from cF.bk.lt)
     have eU:=hid (show(w.heap.size+1)<A.heap.size from df.bk.lt)
     have fd:=hid (show(w.heap.size+1+1)<A.heap.size from cH.bk.lt)
     obtain⟨bN,b0⟩:∃Wx,Wx=A.alloc (.cells #[.int .i64 6,.string x,.int .i64 y] 86):=⟨_,rfl⟩
     have bw:Below A.heap.size A bN:=by rw[b0];exact(Below.refl _ _).alloc (Nat.le_refl _) _
     have dY:=hid (show Mq w0.heap.size A.heap.size #[.int .i64 6,.string x,.int .i64 y] 86 v5 bN from Mq.of bR.out (by rw[b0];exact Bk.new _ _ _) (Nat.le_refl _))
     have fk:=hid (show bN.heap.size=A.heap.size+1 by rw[b0];simp)
     have cm:=hid (bR.keep bw)
     have di:=hid (cF.keep bw)
     have ch:=hid (df.keep bw)
     have c1:=hid (cH.keep bw)
     have dW:=hid (eh.keep bw)
     have e9:=hid (dV.trans (Gr.quiet bw))
     clear bw
     have dk:=cm.c
     have dF:=di.bk.c5
     have cO:=ch.bk.c2
     have d0:=c1.bk.c2
     have d7:=dY.bk.c3
     rw[b0]at dk dF cO d0 d7
     go_wp2_with fail
     rw[<-b0]
     clear dk dF cO d0 d7 b0
     refine(nd.make_all (nd0 13 0 x) o a5 c5 _ dW.parts (Nat.le_trans K5.out.2.2 (by have:=HMB.out;have:=aO.out;omega)) (Nat.le_trans K5.out.1 (by decide)) (fun q hq t ht=>Nat.le_trans (K5.out.2.1 q hq t ht) (by decide))).mono ?_
     rintro e dA ⟨T6,z6,r6,rfl,Q,U,b6,ae⟩
     obtain⟨aT,cT,eT⟩:=U.form
     rw[show z6.length=(makeT (nd0 13 0 x) o).length by rw[<-Q,List.length_map]]at eT
     subst eT
     have H6:=Tq.of cm.out U ae
     rw[Q]at H6
     have HRB:=hid (show w.heap.size+1<bN.heap.size from ch.bk.lt)
     have HXB:=hid (show w.heap.size+1+1<bN.heap.size from c1.bk.lt)
     have b3:=hid (cm.keep b6)
     have bB:=hid (di.keep b6)
     have bF:=hid (ch.keep b6)
     have Z:=hid (c1.keep b6)
     have eo:=hid (e9.trans (Gr.quiet b6))
     have T6:=hid H6
     clear H6 Q U ae b6
     have eM:=b3.c
     have ee:=bB.bk.c5
     have dZ:=bF.bk.c2
     have co:=Z.bk.c2
     have ek:=Z.bk.f
     obtain⟨bZ,ao⟩:∃Wx,Wx=((dA.setCell ⟨(w.heap.size+1+1),0,none⟩ (.slice aT (makeT (nd0 13 0 x) o).length cT)).setCell ⟨(w.heap.size+1+1),1,none⟩ (.bool false)):=⟨_,rfl⟩
     have d2:=hid (by rw[ao];exact((b3.out).mset Z.out 0 _).mset (Z.set 0 (.slice aT (makeT (nd0 13 0 x) o).length cT)) 1 _:Sq w0 l a cap N0 s (m+2) false v5 bZ)
     have cg:=hid ((bB.oth (k:=(w.heap.size+1+1)) (by have:=F.out;omega) 0 (.slice aT (makeT (nd0 13 0 x) o).length cT)).oth (k:=(w.heap.size+1+1)) (by have:=F.out;omega) 1 (.bool false))
     rw[<-ao]at cg
     have cl:=hid ((bF.oth (k:=(w.heap.size+1+1)) (by have:=F.out;omega) 0 (.slice aT (makeT (nd0 13 0 x) o).length cT)).oth (k:=(w.heap.size+1+1)) (by have:=F.out;omega) 1 (.bool false))
     rw[<-ao]at cl
     have cQ:=hid (by rw[ao];exact((Z.set 0 (.slice aT (makeT (nd0 13 0 x) o).length cT)).set 1 (.bool false)):Mq w0.heap.size (w.heap.size+1+1) #[.slice aT (makeT (nd0 13 0 x) o).length cT,.bool false] 95 v5 bZ)
     have d8:=hid ((T6.low (g:=(w.heap.size+1+1)) (HXB.out) 0 (.slice aT (makeT (nd0 13 0 x) o).length cT)).low (g:=(w.heap.size+1+1)) (HXB.out) 1 (.bool false))
     rw[<-ao]at d8
     have dg:=hid ((eo.set (g:=(w.heap.size+1+1)) (.inr (by have:=F.out;omega)) 0 (.slice aT (makeT (nd0 13 0 x) o).length cT)).set (g:=(w.heap.size+1+1)) (.inr (by have:=F.out;omega)) 1 (.bool false))
     rw[<-ao]at dg
     have eR:=hid (show bZ.heap.size=dA.heap.size by rw[ao];simp)
     have HMU:=hid (show multi E l j=(fin 13 0 x o (m+2))from HMUL.out)
     rw[HMU.out]at HTM HMO
     have au:=hid (show RelIn M w0 l a cap N0 s j E pl pd false pg psg T v w ((w.heap.size+1+1)) bZ from⟨atQ ((fin 13 0 x o (m+2))),bdQ ((fin 13 0 x o (m+2))),v5,aT,cT,_,false,_,d2.out,dg.out,cg.out,cl.out,cQ.out,d8.out,HRB.out,way_start HTM.out (⟨rfl,(put_make _ _ _ _).symm⟩) (HMO.out) (fun lv tg t m h=>multi_stuck (HMU.trans h))⟩)
     have dR:=d2.c
     have dO:=cg.bk.c5
     have dt:=cl.bk.c2
     have d5:=cQ.bk.c2
     rw[ao]at dR dO dt d5
     go_wp2
     go_meet
     rw[<-ao]
     clear eM ee dZ co ek dR dO dt d5 ao
     exact au.out
 case rest=>
  have au:=hid hcut
  have HGX:=hid F.out
  obtain⟨gX,hgX⟩:∃gX,gX=w.heap.size+1+1:=⟨_,rfl⟩
  rw[<-hgX]at au HGX|-
  clear hgX hcut cf ca cb bY cW
  go_wp2
  go_loopw [8] (fun _ wr=>RelIn M w0 l a cap N0 s j E pl pd false pg psg T v w gX wr) (fun _ wr=>msr l.length w0.heap.size wr)
  case atStart=>exact au.out
  case round=>
   obtain⟨m,bd,vr,aT,cT,tt,hh,B,hs,hg,hP,hR,hXB,hT,hBB,hway⟩:=hrel
   have Sr:=hid hs
   have Gr':=hid hg
   have Pr:=hid hP
   have Rr:=hid hR
   have XBr:=hid hXB
   have Xr:=hid hT
   have HBB:=hid hBB
   have HMS:=hid (msr_of hs)
   clear hs hg hP hR hXB hT hBB
   rcases hway with ⟨rfl,hTT,hwk⟩|⟨rfl,lv,tg,t',gf,hgt,hok,hTT,hgf,hst,hlv⟩
   ·
    have HTT:=hid hTT
    have HWK:=hid hwk
    clear hTT hwk
    have ay:=Sr.c
    have ax:=Pr.bk.c5
    have az:=Rr.bk.c2
    have bn:=Rr.bk.f
    have bl:=XBr.bk.c2
    go_wp2
    clear ay ax az bn bl
    obtain⟨eu,eb⟩:=(Rr.bk.put2 (.slice aT tt.length cT) (.bool hh)).c2
    exact bodyPost_ret (v:= .agg #[.slice aT tt.length cT,.bool hh]) (by simp[results,Tryz.results112,go_sem,eu,eb]) rfl (by rw[HTT.out];exact rq_end HLT.out (show Sq w0 l a cap N0 s m true _ _ from Sr.out) Gr'.out Rr.out Xr.out (by exact Nat.le_succ _) (by exact HBB.out) (HWK.out))
   ·
    have HGT:=hid hgt
    have HOK:=hid hok
    have HGF:=hid hgf
    have HTE:=hid hTT
    have hiso:=goes_5 hlv hst
    have HJL:=hid (show m<=l.length from hok.2.1)
    have HK:=hid (fun W2 (h2:Sq w0 l a cap N0 s m false vr W2)=>kind_any W2 h2 HC.out HL.out)
    by_cases h24:kd l m=24
    case neg=>
     have HTT:=hid (hTT.trans (go_stop (by rw[hiso];simp[h24]) (by omega)))
     obtain⟨c,hcc⟩:∃c,kd l m=c:=⟨_,rfl⟩
     rw[hcc]at HK h24
     obtain⟨q1,q2⟩:=ne_facts h24
     clear hiso hgt hok hgf hTT hst hlv h24 hcc
     have ay:=Sr.c
     have ax:=Pr.bk.c5
     have az:=Rr.bk.c2
     have bn:=Rr.bk.f
     have bl:=XBr.bk.c2
     go_wp2_with fail
     clear ay ax az bn bl
     refine(HK.out _ Sr.out).mono ?_
     rintro e dH ⟨rfl,G⟩
     have aD:=hid (Sr.keep G)
     have bx:=hid (Pr.keep G)
     have ab:=hid (Rr.keep G)
     have bf:=hid (XBr.keep G)
     have b8:=hid (Xr.keep G)
     have bE:=hid (Gr'.trans (Gr.quiet G))
     clear G
     have bV:=aD.c
     have bH:=bx.bk.c5
     have bh:=ab.bk.c2
     have bQ:=ab.bk.f
     have bX:=bf.bk.c2
     go_wp2
     clear bV bH bh bQ bX
     obtain⟨eP,ez⟩:=(ab.bk.put2 (.slice aT tt.length cT) (.bool hh)).c2
     exact bodyPost_ret (v:= .agg #[.slice aT tt.length cT,.bool hh]) (by simp[results,Tryz.results112,go_sem,eP,ez]) rfl (by rw[HTT.out];exact rq_end HLT.out (show Sq w0 l a cap N0 s m false _ _ from aD.out) bE.out ab.out b8.out (by exact Nat.le_succ _) (by exact HBB.out) (HGT.out))
    case pos=>
     have HGO:=hid (show goes (kd l m) lv tg (cp 5 false pg)=true by rw[hiso,h24];rfl)
     have ac:=hid h24
     have HML:=hid (kd_lt (l:=l) (i:=m) (by omega))
     have HWX:=hid (gt_wk1 hgt hok)
     rw[h24]at HK
     clear hiso hgt hok hgf hTT hst hlv h24
     by_cases h6:kd l (m+1)=6
     case pos=>
      have H6:=hid h6
      obtain⟨x,hx⟩:∃x,tx l (m+1)=x:=⟨_,rfl⟩
      obtain⟨y,hy⟩:∃y,pr.ta l (m+1)=y:=⟨_,rfl⟩
      have es:=hid hx.symm
      have HTY:=hid (fun W2 (h2:Sq w0 l a cap N0 s (m+1) false vr W2)=>take_yes 6 W2 h2 HC.out HL.out (by decide) (by decide) h6)
      rw[hx,hy]at HTY
      clear h6 hx hy
      have ay:=Sr.c
      have ax:=Pr.bk.c5
      have az:=Rr.bk.c2
      have bn:=Rr.bk.f
      have bl:=XBr.bk.c2
      go_wp2_with fail
      clear ay ax az bn bl
      refine(HK.out _ Sr.out).mono ?_
      rintro e dH ⟨rfl,G⟩
      have aD:=hid (Sr.keep G)
      have bx:=hid (Pr.keep G)
      have ab:=hid (Rr.keep G)
      have bf:=hid (XBr.keep G)
      have b8:=hid (Xr.keep G)
      have bE:=hid (Gr'.trans (Gr.quiet G))
      clear G
      have bV:=aD.c
      have bH:=bx.bk.c5
      have bh:=ab.bk.c2
      have bQ:=ab.bk.f
      have bX:=bf.bk.c2
      go_wp2_with fail
      clear bV bH bh bQ bX
      refine(take_yes 24 _ aD.out HC.out HL.out (by decide) (by decide) ac.out).mono ?_
      rintro e eL ⟨rfl,b7,aa⟩
      have bP:=hid b7
      have bW:=hid (bx.go aa)
      have bi:=hid (ab.go aa)
      have bO:=hid (bf.go aa)
      have cq:=hid (b8.go aa)
      have cr:=hid (bE.trans aa)
      clear b7 aa
      have cy:=bP.c
      have cE:=bW.bk.c5
      have ct:=bi.bk.c2
      have cC:=bi.bk.f
      have cz:=bO.bk.c2
      go_wp2_with fail
      clear cy cE ct cC cz
      refine(HTY.out _ bP.out).mono ?_
      rintro e P ⟨rfl,s9,g9⟩
      have bR:=hid s9
      have dD:=hid (bW.go g9)
      have dj:=hid (bi.go g9)
      have dT:=hid (bO.go g9)
      have eA:=hid (cq.go g9)
      have ec:=hid (cr.trans g9)
      clear s9 g9
      have eY:=hid (show w.heap.size<P.heap.size from dD.bk.lt)
      have eS:=hid (show(w.heap.size+1)<P.heap.size from dj.bk.lt)
      have eX:=hid (show gX<P.heap.size from dT.bk.lt)
      obtain⟨bs,b2⟩:∃Wx,Wx=P.alloc (.cells #[.int .i64 6,.string x,.int .i64 y] 86):=⟨_,rfl⟩
      have bb:Below P.heap.size P bs:=by rw[b2];exact(Below.refl _ _).alloc (Nat.le_refl _) _
      have dr:=hid (show Mq w0.heap.size P.heap.size #[.int .i64 6,.string x,.int .i64 y] 86 vr bs from Mq.of bR.out (by rw[b2];exact Bk.new _ _ _) (Nat.le_refl _))
      have e1:=hid (show bs.heap.size=P.heap.size+1 by rw[b2];simp)
      have cj:=hid (bR.keep bb)
      have dL:=hid (dD.keep bb)
      have dd:=hid (dj.keep bb)
      have ce:=hid (dT.keep bb)
      have dI:=hid (eA.keep bb)
      have dX:=hid (ec.trans (Gr.quiet bb))
      clear bb
      have dU:=cj.c
      have cZ:=dL.bk.c5
      have ds:=dd.bk.c2
      have dS:=ce.bk.c2
      have cX:=ce.bk.f
      have dv:=dr.bk.c3
      rw[b2]at dU cZ ds dS cX dv
      go_wp2_with fail
      rw[<-b2]
      clear dU cZ ds dS cX dv b2
      have dp:=dI.lies'
      refine(over1_any e1.out 13 0 x tt dp (wk_mono HWX.out (by have:=aO.out;have:=HJL.out;omega))).mono ?_
      rintro e cB ⟨T,z,r,rfl,hz,hp,dE,hr⟩
      have u1410:=Tq.of (cj.alloc (.cells #[.slice aT tt.length cT] 26)) hp hr
      rw[hz]at u1410
      have eK:=hid (show(bs.alloc (.cells #[.slice aT tt.length cT] 26)).heap.size=bs.heap.size+1 by simp)
      rw[eK.out]at u1410
      have e3:=hid u1410
      have aX:Below bs.heap.size bs cB:=((Below.refl _ _).alloc (Nat.le_refl _) _).trans (dE.mono (by simp))
      have ci:=hid (cj.keep aX)
      have dh:=hid (dL.keep aX)
      have d1:=hid (dd.keep aX)
      have bv:=hid (ce.keep aX)
      have ed:=hid (dr.keep aX)
      have fi:=hid (dI.keep aX)
      have e7:=hid (dX.trans (Gr.quiet aX))
      obtain⟨aq,ap,rfl,-⟩:=u1410.lies
      clear u1410 hz hp hr dE aX dp
      have HXL:=hid (show gX<_ from ce.bk.lt)
      have HRL:=hid (show w.heap.size+1<_ from Nat.lt_trans HGX.out HXL.out)
      have eB:=ci.c
      have eJ:=dh.bk.c5
      have eN:=d1.bk.c2
      have eE:=bv.bk.c2
      have el:=bv.bk.f
      have br:=ed.bk.c3
      go_wp2
      clear eB eJ eN eE el br
      go_roundw
      case rel=>
       obtain⟨cn,aN⟩:∃Wx,Wx=((cB.setCell ⟨gX,0,none⟩ (.slice aq (makeT (nd0 13 0 x) [tt]).length ap)).setCell ⟨gX,1,none⟩ (.bool false)):=⟨_,rfl⟩
       have eG:=hid (by rw[aN];exact((ci.out).mset bv.out 0 _).mset (bv.set 0 (.slice aq (makeT (nd0 13 0 x) [tt]).length ap)) 1 _:Sq w0 l a cap N0 s (m+2) false vr cn)
       have cK:=hid ((dh.oth (k:=gX) (by have:=HGX.out;omega) 0 (.slice aq (makeT (nd0 13 0 x) [tt]).length ap)).oth (k:=gX) (by have:=HGX.out;omega) 1 (.bool false))
       rw[<-aN]at cK
       have cI:=hid ((d1.oth (k:=gX) (by have:=HGX.out;omega) 0 (.slice aq (makeT (nd0 13 0 x) [tt]).length ap)).oth (k:=gX) (by have:=HGX.out;omega) 1 (.bool false))
       rw[<-aN]at cI
       have et:=hid (by rw[aN];exact((bv.set 0 (.slice aq (makeT (nd0 13 0 x) [tt]).length ap)).set 1 (.bool false)):Mq w0.heap.size gX #[.slice aq (makeT (nd0 13 0 x) [tt]).length ap,.bool false] 95 vr cn)
       have dz:=hid ((e3.out.low (g:=gX) (Nat.lt_succ_of_lt HXL.out) 0 (.slice aq (makeT (nd0 13 0 x) [tt]).length ap)).low (g:=gX) (Nat.lt_succ_of_lt HXL.out) 1 (.bool false))
       rw[<-aN]at dz
       have cJ:=hid ((e7.set (g:=gX) (.inr (by have:=HGX.out;omega)) 0 (.slice aq (makeT (nd0 13 0 x) [tt]).length ap)).set (g:=gX) (.inr (by have:=HGX.out;omega)) 1 (.bool false))
       rw[<-aN]at cJ
       have fe:=hid (show cn.heap.size=cB.heap.size by rw[aN];simp)
       rw[<-aN]
       have hw:=way_in HM.out aO.out HGT.out HOK.out HTE.out HGF.out HGO.out ac.out x (fun _=>es.out)
       rw[show innR l t' m=fin 13 0 (tx l (m+1)) [t'] (m+2)from if_pos H6.out]at hw
       exact⟨(m+2),false,vr,aq,ap,_,false,_,eG.out,cJ.out,cK.out,cI.out,et.out,dz.out,Nat.lt_succ_of_lt HRL.out,hw⟩
      case measure=>
       have cD:=(ci.mset bv.out 0 (.slice aq (makeT (nd0 13 0 x) [tt]).length ap)).mset (bv.set 0 _) 1 (.bool false)
       rw[msr_of cD,HMS.out]
       have:=HML.out
       have:=kd_lt (l:=l) (i:=m+1) (by have:=H6.out;omega)
       simp
       omega
     case neg=>
      have H6:=hid h6
      clear h6
      have ay:=Sr.c
      have ax:=Pr.bk.c5
      have az:=Rr.bk.c2
      have bn:=Rr.bk.f
      have bl:=XBr.bk.c2
      go_wp2_with fail
      clear ay ax az bn bl
      refine(HK.out _ Sr.out).mono ?_
      rintro e dH ⟨rfl,G⟩
      have aD:=hid (Sr.keep G)
      have bx:=hid (Pr.keep G)
      have ab:=hid (Rr.keep G)
      have bf:=hid (XBr.keep G)
      have b8:=hid (Xr.keep G)
      have bE:=hid (Gr'.trans (Gr.quiet G))
      clear G
      have bV:=aD.c
      have bH:=bx.bk.c5
      have bh:=ab.bk.c2
      have bQ:=ab.bk.f
      have bX:=bf.bk.c2
      go_wp2_with fail
      clear bV bH bh bQ bX
      refine(take_yes 24 _ aD.out HC.out HL.out (by decide) (by decide) ac.out).mono ?_
      rintro e eL ⟨rfl,b7,aa⟩
      have bP:=hid b7
      have bW:=hid (bx.go aa)
      have bi:=hid (ab.go aa)
      have bO:=hid (bf.go aa)
      have cq:=hid (b8.go aa)
      have cr:=hid (bE.trans aa)
      clear b7 aa
      have cy:=bP.c
      have cE:=bW.bk.c5
      have ct:=bi.bk.c2
      have cC:=bi.bk.f
      have cz:=bO.bk.c2
      go_wp2_with fail
      clear cy cE ct cC cz
      refine(take_no 6 _ bP.out HC.out HL.out (by decide) (by decide) (.inr H6.out)).mono ?_
      rintro e P ⟨rfl,dC,bz⟩
      have dw:=hid dC
      have dN:=hid (bW.go bz)
      have da:=hid (bi.go bz)
      have cV:=hid (bO.go bz)
      have eH:=hid (cq.go bz)
      have er:=hid (cr.trans bz)
      clear dC bz
      have fj:=hid (show w.heap.size<P.heap.size from dN.bk.lt)
      have fg:=hid (show(w.heap.size+1)<P.heap.size from da.bk.lt)
      have fa:=hid (show gX<P.heap.size from cV.bk.lt)
      obtain⟨aZ,b1⟩:∃Wx,Wx=P.alloc (.cells #[.int .i64 0,.string ⟨#[]⟩,.int .i64 0] 86):=⟨_,rfl⟩
      have bp:Below P.heap.size P aZ:=by rw[b1];exact(Below.refl _ _).alloc (Nat.le_refl _) _
      have dm:=hid (show Mq w0.heap.size P.heap.size #[.int .i64 0,.string ⟨#[]⟩,.int .i64 0] 86 vr aZ from Mq.of dw.out (by rw[b1];exact Bk.new _ _ _) (Nat.le_refl _))
      have eI:=hid (show aZ.heap.size=P.heap.size+1 by rw[b1];simp)
      have ck:=hid (dw.keep bp)
      have d6:=hid (dN.keep bp)
      have cM:=hid (da.keep bp)
      have cc:=hid (cV.keep bp)
      have dl:=hid (eH.keep bp)
      have e8:=hid (er.trans (Gr.quiet bp))
      clear bp
      have cL:=ck.c
      have du:=d6.bk.c5
      have dG:=cM.bk.c2
      have cS:=cc.bk.c2
      have dx:=cc.bk.f
      have dy:=dm.bk.c3
      rw[b1]at cL du dG cS dx dy
      go_wp2_with fail
      rw[<-b1]
      clear cL du dG cS dx dy b1
      have dK:=dl.lies'
      refine(over1_any eI.out 13 0 ⟨#[]⟩ tt dK (wk_mono HWX.out (by have:=aO.out;have:=HJL.out;omega))).mono ?_
      rintro e c4 ⟨T,z,r,rfl,hz,hp,d3,hr⟩
      have u1440:=Tq.of (ck.alloc (.cells #[.slice aT tt.length cT] 26)) hp hr
      rw[hz]at u1440
      have eg:=hid (show(aZ.alloc (.cells #[.slice aT tt.length cT] 26)).heap.size=aZ.heap.size+1 by simp)
      rw[eg.out]at u1440
      have eF:=hid u1440
      have aF:Below aZ.heap.size aZ c4:=((Below.refl _ _).alloc (Nat.le_refl _) _).trans (d3.mono (by simp))
      have b3:=hid (ck.keep aF)
      have bB:=hid (d6.keep aF)
      have bF:=hid (cM.keep aF)
      have Z:=hid (cc.keep aF)
      have eO:=hid (dm.keep aF)
      have ff:=hid (dl.keep aF)
      have e5:=hid (e8.trans (Gr.quiet aF))
      obtain⟨aw,ar,rfl,-⟩:=u1440.lies
      clear u1440 hz hp hr d3 aF dK
      have HXL:=hid (show gX<_ from cc.bk.lt)
      have HRL:=hid (show w.heap.size+1<_ from Nat.lt_trans HGX.out HXL.out)
      have ex:=b3.c
      have ef:=bB.bk.c5
      have co:=bF.bk.c2
      have ea:=Z.bk.c2
      have ey:=Z.bk.f
      have eD:=eO.bk.c3
      go_wp2
      clear ex ef co ea ey eD
      go_roundw
      case rel=>
       obtain⟨cx,aA⟩:∃Wx,Wx=((c4.setCell ⟨gX,0,none⟩ (.slice aw (makeT (nd0 13 0 ⟨#[]⟩) [tt]).length ar)).setCell ⟨gX,1,none⟩ (.bool false)):=⟨_,rfl⟩
       have ep:=hid (by rw[aA];exact((b3.out).mset Z.out 0 _).mset (Z.set 0 (.slice aw (makeT (nd0 13 0 ⟨#[]⟩) [tt]).length ar)) 1 _:Sq w0 l a cap N0 s (m+1) true vr cx)
       have db:=hid ((bB.oth (k:=gX) (by have:=HGX.out;omega) 0 (.slice aw (makeT (nd0 13 0 ⟨#[]⟩) [tt]).length ar)).oth (k:=gX) (by have:=HGX.out;omega) 1 (.bool false))
       rw[<-aA]at db
       have dn:=hid ((bF.oth (k:=gX) (by have:=HGX.out;omega) 0 (.slice aw (makeT (nd0 13 0 ⟨#[]⟩) [tt]).length ar)).oth (k:=gX) (by have:=HGX.out;omega) 1 (.bool false))
       rw[<-aA]at dn
       have e6:=hid (by rw[aA];exact((Z.set 0 (.slice aw (makeT (nd0 13 0 ⟨#[]⟩) [tt]).length ar)).set 1 (.bool false)):Mq w0.heap.size gX #[.slice aw (makeT (nd0 13 0 ⟨#[]⟩) [tt]).length ar,.bool false] 95 vr cx)
       have d9:=hid ((eF.out.low (g:=gX) (Nat.lt_succ_of_lt HXL.out) 0 (.slice aw (makeT (nd0 13 0 ⟨#[]⟩) [tt]).length ar)).low (g:=gX) (Nat.lt_succ_of_lt HXL.out) 1 (.bool false))
       rw[<-aA]at d9
       have d4:=hid ((e5.set (g:=gX) (.inr (by have:=HGX.out;omega)) 0 (.slice aw (makeT (nd0 13 0 ⟨#[]⟩) [tt]).length ar)).set (g:=gX) (.inr (by have:=HGX.out;omega)) 1 (.bool false))
       rw[<-aA]at d4
       have eZ:=hid (show cx.heap.size=c4.heap.size by rw[aA];simp)
       rw[<-aA]
       have hw:=way_in HM.out aO.out HGT.out HOK.out HTE.out HGF.out HGO.out ac.out ⟨#[]⟩ (fun h=>absurd h H6.out)
       rw[show innR l t' m= .bad (m+1)from if_neg H6.out]at hw
       exact⟨(m+1),true,vr,aw,ar,_,false,_,ep.out,d4.out,db.out,dn.out,e6.out,d9.out,Nat.lt_succ_of_lt HRL.out,hw⟩
      case measure=>
       have cD:=(b3.mset Z.out 0 (.slice aw (makeT (nd0 13 0 ⟨#[]⟩) [tt]).length ar)).mset (Z.set 0 _) 1 (.bool false)
       rw[msr_of cD,HMS.out]
       have:=HML.out
       skip
       simp
       try omega
end
end Go.Proofs.YtebjmdpkobhcbaaGreatDoor.qs
