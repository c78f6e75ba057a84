/- A part of the proof; no condition of its own. -/
import Derived.Test.YtebjmdpkobhcbaaGreatDoorZGR
import Derived.Deep.CutRange
import Derived.Deep.CutBlock
import Derived.Deep.DeepCutAuto
namespace Go.Proofs.YtebjmdpkobhcbaaGreatDoor.qs
open Go.ChangeShapes Go.WideShapes Go.ChangeAt Go.RowKit
open tk (Tk)
open nd (Nd PT KidV makeT)
open ps (Ps posOk top)
open pe
open rt (isLval)
open operand (begins)
open lv (opLevel levelOf has)
open pr (Bk Gr X0 below_drewN eq_facts ne_facts fld_k fld_s)
set_option linter.unusedVariables false
set_option linter.unusedSimpArgs false
set_option maxRecDepth 20000
section
variable {w0:World} {l:List Tk} {a:Option Addr} {cap:Nat} {N0:List Tk} {s j:Nat} {v:Value} {E:Ps→Nat→R} {M:Nat}
def inR(E:Ps→Nat→R)(l:List Tk)(i g:Bool)(j:Nat)(RX:R):R:=
 match (if i=false∧comma l j=true then multi E l j else RX)with
 | .bad m=> .bad m
 | .ok lv tg t m=>go E l (cp 5 i g) (l.length+1) lv tg t m
theorem inR_no{i g:Bool}{RX:R}(h:¬(i=false∧comma l j=true)):inR E l i g j RX=(match RX with| .bad m=> .bad m| .ok lv tg t m=>go E l (cp 5 i g) (l.length+1) lv tg t m):=by unfold inR;rw[if_neg h]
theorem inR_yes{i g:Bool}{RX:R}(h:i=false∧comma l j=true):inR E l i g j RX=(match multi E l j with| .bad m=> .bad m| .ok lv tg t m=>go E l (cp 5 i g) (l.length+1) lv tg t m):=by unfold inR;rw[if_pos h]
def multiR(l:List Tk):P→R
 | .bad m=> .bad m
 | .ok ps m=>if kd l m=33 then inn l ps (m+1)else .bad m
theorem multi_eq:multi E l j=multiR l (els E l 6 6 [] (j+1)):=by unfold multi multiR;cases els E l 6 6 [] (j+1)<;>rfl
def WayI(M:Nat)(l:List Tk)(E:Ps→Nat→R)(i g:Bool)(j:Nat)(T:R)(m:Nat)(bd:Bool)(t:List Nd)(h:Bool):Prop:=
 (bd=true∧T= .bad m∧Wk (2*(m-j)) t)∨(bd=false∧∃lv tg t' gf,GtR j t h (.ok lv tg t' m)∧Ok M l j (.ok lv tg t' m)∧T=go E l (cp 5 i g) gf lv tg t' m∧l.length-m<gf∧goes (kd l m) lv tg (cp 6 i g)=false∧5≤lv)
theorem way_start{i g:Bool}{T r:R}{t:List Nd}{h:Bool}(hT:T=(match r with| .bad m=> .bad m| .ok lv tg t m=>go E l (cp 5 i g) (l.length+1) lv tg t m))(hg:GtR j t h r)(ho:Ok M l j r)(hs:∀lv tg t m,r= .ok lv tg t m→goes (kd l m) lv tg (cp 6 i g)=false∧5≤lv):WayI M l E i g j T (atQ r) (bdQ r) t h:=by
 cases r with
 |bad m=>exact .inl ⟨rfl,hT,hg⟩
 |ok lv tg t' m=>exact .inr ⟨rfl,lv,tg,t',l.length+1,hg,ho,hT,by omega,(hs _ _ _ _ rfl).1,(hs _ _ _ _ rfl).2⟩
theorem multi_stuck{i g:Bool}{lv:Int}{tg:Bool}{t:List Nd}{m:Nat}(h:multi E l j= .ok lv tg t m):goes (kd l m) lv tg (cp 6 i g)=false∧5≤lv:=by
 unfold multi at h
 cases hr:els E l 6 6 [] (j+1)with
 |bad m=>rw[hr]at h;cases h
 |ok ps m'=>
  rw[hr]at h
  simp only at h
  split at h
  ·obtain⟨rfl,rfl,-⟩:=inn_lv h
   exact⟨no_low (cp_ok (by decide) (by decide)) (show(5:Int)<6 by decide),by decide⟩
  ·cases h
theorem multi_ok(oE:∀p i,i≤l.length→Ok M l i (E p i))(hM:∀t∈l,t.s.size≤M)(hb:l.length≤100000)(hi:j<l.length):Ok M l j (multi E l j):=by
 unfold multi
 have h3:=els_ok (M:=M) oE 6 6 [] (j+1) (by omega) (fun q hq=>by simp at hq)
 have h4:=els_len (E:=E) (l:=l) 6 6 [] (j+1)
 cases hr:els E l 6 6 [] (j+1)with
 |bad m=>rw[hr]at h3;exact⟨by have:=h3.1;omega,h3.2⟩
 |ok ps m=>
  rw[hr]at h3
  obtain⟨b1,b2,b3,b4,b5⟩:=h3
  have h5:=h4 _ _ hr
  simp[nd.sumL]at b3 h5
  simp only
  split
  ·next h6=>
   have:=kd_lt (l:=l) (i:=m) (by omega)
   exact inn_ok hM hb (by omega) (by omega) (fun q hq=>(b4 q hq).2) (by omega) (by omega)
  ·exact⟨by omega,b2⟩
def innR(l:List Tk)(t:List Nd)(m:Nat):R:=if kd l (m+1)=6 then fin 13 0 (tx l (m+1)) [t] (m+2)else .bad (m+1)
theorem way_in{i g:Bool}{T:R}{m:Nat}{t1:List Nd}{h1:Bool}{lv:Int}{tg:Bool}{t':List Nd}{gf:Nat}(hM:∀t∈l,t.s.size≤M)(hb:l.length≤6000)(hx:GtR j t1 h1 (.ok lv tg t' m))(ox:Ok M l j (.ok lv tg t' m))(hT:T=go E l (cp 5 i g) gf lv tg t' m)(hg:l.length-m<gf)(hgo:goes (kd l m) lv tg (cp 5 i g)=true)(hk:kd l m=24)(x:ByteArray)(hxx:kd l (m+1)=6→x=tx l (m+1)):
  WayI M l E i g j T (atQ (innR l t' m)) (bdQ (innR l t' m)) (makeT (nd0 13 0 x) [t1]) false:=by
 obtain⟨gf,rfl⟩:∃k,gf=k+1:=⟨gf-1,by omega⟩
 have hs:pe.step E l (kd l m) (cp 5 i g) t' m=innR l t' m:=by
  rw[hk]
  show inn l [t'] m=_
  unfold inn innR
  rw[if_pos hk]
 rw[go_next hgo,hs]at hT
 have h:=gt_wk1 hx ox
 unfold innR at hT⊢
 have hlt:=kd_lt (l:=l) (i:=m) (by omega)
 by_cases h6:kd l (m+1)=6
 ·rw[if_pos h6]at hT⊢
  have y:=kd_lt (l:=l) (i:=m+1) (by omega)
  have o:=hxx h6
  subst o
  obtain⟨rfl,-⟩:=hx
  obtain⟨a1,a2,a3,a4,a5,a6⟩:=ox
  refine .inr ⟨rfl,levelOf 13 0,isLval 13,_,gf,⟨rfl,(put_make _ _ _ _).symm⟩, ?_,hT,by show l.length-(m+2)<gf;omega,no_low (cp_ok (by decide) (by decide)) (show(5:Int)<6 by decide),by decide⟩
  exact ok_fin (by decide) (tx_le hM _) (by simp) (fun q hq=>by simp at hq;subst hq;exact a6) (by show j<m+2;omega) (by show m+2≤l.length;omega) (by omega) (by show nd.sumL [t1]+2≤2*(m+2-j);simp only[nd.sumL];omega)
 ·rw[if_neg h6]at hT⊢
  refine .inl ⟨rfl,hT,wk_mono (wk_make (K:=2*(m-j)-1+1) (fun q hq n hn=>by simp at hq;subst hq;exact h.2 n hn) (by simp) (by have:=h.1;simp[nd.sumL];omega)) (by have:=ox.1;show _≤2*(m+1-j);omega)⟩
def RelIn(M:Nat)(w0:World)(l:List Tk)(a:Option Addr)(cap:Nat)(N0:List Tk)(s j:Nat)(E:Ps→Nat→R)(pl:Int)(pd pi pg psg:Bool)(T:R)(v:Value)(w:World)(gX:Nat)(wr:World):Prop:=
 ∃(m:Nat) (bd:Bool) (v':Value) (aT:Option Addr) (cT:Nat) (t:List Nd) (h:Bool) (B:Nat),Sq w0 l a cap N0 s m bd v' wr∧Gr (X0 w0.heap.size) v v' w wr∧Mq w0.heap.size w.heap.size #[.int .i64 pl,.bool pd,.bool pi,.bool pg,.bool psg] 44 v' wr∧Mq w0.heap.size (w.heap.size+1) #[.slice none 0 0,.bool false] 95 v' wr∧Mq w0.heap.size gX #[.slice aT t.length cT,.bool h] 95 v' wr∧Tq w0.heap.size B (.slice aT t.length cT) t v' wr∧w.heap.size+1<B∧WayI M l E pi pg j T m bd t h
end
end Go.Proofs.YtebjmdpkobhcbaaGreatDoor.qs

namespace Go.Proofs.YtebjmdpkobhcbaaGreatDoor.qs
open Lib (hid)
open Go.ChangeShapes Go.WideShapes Go.ChangeAt Go.RowKit
open tk (Tk)
open nd (Nd PT KidV makeT)
open ps (Ps posOk top)
open pe
open rt (isLval)
open operand (begins)
open lv (opLevel levelOf has)
open pr (Bk Gr X0 below_drewN eq_facts ne_facts fld_k fld_s)
set_option linter.unusedVariables false
set_option linter.unusedSimpArgs false
set_option maxRecDepth 20000
section
variable {w0:World} {l:List Tk} {a:Option Addr} {cap:Nat} {N0:List Tk} {s j:Nat} {v:Value} {E:Ps→Nat→R} {M:Nat}
set_option maxHeartbeats 12800000 in
theorem in_no(pl:Int)(pd pi pg psg:Bool)(w:World)(hst:Sq w0 l a cap N0 s j false v w)(hc:tk.Lies w0.heap.size w0 a l)(hl:l.length≤6000)(hM:∀t∈l,t.s.size≤M)(hC:¬(pi=false∧comma l j=true))(RX:R)(hX:∀(v:Value) (w:World),Sq w0 l a cap N0 s j false v w→Calls Tryz.prog 63 #[.pointer (some ⟨w0.heap.size,0,none⟩),.agg #[.int .i64 6,.bool false,.bool pi,.bool pg,.bool false]] w (Rq w0 l a cap N0 s j v w RX))(oX:Ok M l j RX)(sX:∀lv tg t m,RX= .ok lv tg t m→goes (kd l m) lv tg (cp 6 pi pg)=false∧5≤lv)(hE:CallS w0 l a cap N0 s E (j+1))(oE:∀p i,i≤l.length→Ok M l i (E p i))(hN0:N0.length+l.length≤200000):
  Calls Tryz.prog 112 #[.pointer (some ⟨w0.heap.size,0,none⟩),.agg #[.int .i64 pl,.bool pd,.bool pi,.bool pg,.bool psg]] w (Rq w0 l a cap N0 s j v w (inR E l pi pg j RX)):=by
 have HC:=hid hc
 have HL:=hid (show l.length≤100000 by omega)
 have ba:=hid hl
 have HX:=hid hX
 have OX:=hid oX
 have HAT:=hid (ok_at oX)
 have SX:=hid sX
 have HM:=hid hM
 have el:=hid hN0
 obtain⟨T,hT⟩:∃T,T=inR E l pi pg j RX:=⟨_,rfl⟩
 have HT:=hid hT
 rw[←hT]
 obtain⟨W,hW⟩:∃Wx,Wx=(w.alloc (.cells #[.int .i64 pl,.bool pd,.bool pi,.bool pg,.bool psg] 44)).alloc (.cells #[.slice none 0 0,.bool false] 95):=⟨_,rfl⟩
 have hB:Below w.heap.size w W:=by rw[hW];exact((Below.refl _ _).alloc (Nat.le_refl _) _).alloc (by simp) _
 have P0:=hid (show Mq w0.heap.size w.heap.size #[.int .i64 pl,.bool pd,.bool pi,.bool pg,.bool psg] 44 v W from Mq.of hst (by rw[hW];exact(Bk.new _ _ _).alloc _) (Nat.le_refl _))
 have R0:=hid (show Mq w0.heap.size (w.heap.size+1) #[.slice none 0 0,.bool false] 95 v W from Mq.of hst (by rw[hW];have:=Bk.new (w.alloc (.cells #[.int .i64 pl,.bool pd,.bool pi,.bool pg,.bool psg] 44)) #[.slice none 0 0,.bool false] 95;simpa using this) (Nat.le_succ _))
 have S0:=hid (hst.keep hB)
 have G0:=hid (show Gr (X0 w0.heap.size) v v w W from Gr.quiet hB)
 have HLT:=hid hst.lt
 have HBS:=hid hB.size
 have HJN:=hid hst.jn
 have HWS:=hid (show W.heap.size=w.heap.size+2 by rw[hW];simp)
 clear hB hst
 obtain⟨W2,aj⟩:∃W2,W2=W.alloc (.cells #[.slice none 0 0,.bool false] 95):=⟨_,rfl⟩
 have a9:Below W.heap.size W W2:=by rw[aj];exact(Below.refl _ _).alloc (Nat.le_refl _) _
 have HSW:=hid (show W.heap.size=w.heap.size+1+1 by rw[hW];simp)
 have aX:=hid (show Mq w0.heap.size (w.heap.size+1+1) #[.slice none 0 0,.bool false] 95 v W2 by rw[←HSW.out];exact Mq.of S0.out (by rw[aj];exact Bk.new _ _ _) (Nat.le_refl _))
 have C:=hid (show w.heap.size+1<w.heap.size+1+1 by omega)
 have S1:=hid (S0.keep a9)
 have P2:=hid (P0.keep a9)
 have R3:=hid (R0.keep a9)
 have G4:=hid (G0.trans (Gr.quiet a9))
 have HCA:=hid (comma_any W2 S1.out hc (by omega))
 have HTM:=hid (hT.trans (inR_no hC))
 have HCN:=hid hC
 clear hX oX hE oE hc hl hM sX hN0 hT a9
 cases pi with
 |true=>
  obtain⟨c5,c6,c7,c8⟩:=S1.c
  have m9:=P2.bk.c5
  have aM:=R3.bk.c2
  have aG:=aX.bk.c2
  rw[aj,hW]at c5 c6 c7 c8 m9 aM aG
  go_enter Tryz.func112,Tryz.ntmps112
  go_wp2_with fail
  rw[←hW,←aj]
  clear hW aj c5 c6 c7 c8 m9 aM aG
  refine(part_any _ _ _ _ _ _ _).mono ?_
  rintro e dc ⟨rfl,F⟩
  have aH:=hid (S1.keep F)
  have aB:=hid (P2.keep F)
  have a8:=hid (R3.keep F)
  have az:=hid (aX.keep F)
  have bs:=hid (G4.trans (Gr.quiet F))
  clear F
  have bu:=aH.c
  have bG:=aB.bk.c5
  have bO:=a8.bk.c2
  have bB:=az.bk.c2
  go_wp2_with fail
  clear bu bG bO bB
  refine(HX.out v dc aH.out).mono ?_
  rintro e aY ⟨T,ae,ah,bm,rfl,s9,aI,t9,cx⟩
  have aF:=hid s9
  have cf:=hid (aB.go aI)
  have cR:=hid (a8.go aI)
  have aK:=hid (az.go aI)
  have dF:=hid (bs.trans aI)
  have dj:=hid t9
  have dr:=hid cx
  obtain⟨aa,V,rfl,dI⟩:=t9.lies
  clear s9 t9 aI cx dI
  have HBL:=hid (show w.heap.size+1<_ from a8.bk.lt)
  have dK:=aF.c
  have dZ:=cf.bk.c5
  have ec:=cR.bk.c2
  have dA:=aK.bk.c2
  have eb:=aK.bk.f
  obtain⟨bf,J⟩:∃Wx,Wx=((aY.setCell ⟨(w.heap.size+1+1),0,none⟩ (.slice aa ae.length V)).setCell ⟨(w.heap.size+1+1),1,none⟩ (.bool ah)):=⟨_,rfl⟩
  have bt:=hid (by rw[J];exact((aF.out).mset aK.out 0 _).mset (aK.set 0 (.slice aa ae.length V)) 1 _:Sq w0 l a cap N0 s (atQ RX) (bdQ RX) bm bf)
  have bh:=hid ((cf.oth (k:=(w.heap.size+1+1)) (by have:=C.out;omega) 0 (.slice aa ae.length V)).oth (k:=(w.heap.size+1+1)) (by have:=C.out;omega) 1 (.bool ah))
  rw[←J]at bh
  have bi:=hid ((cR.oth (k:=(w.heap.size+1+1)) (by have:=C.out;omega) 0 (.slice aa ae.length V)).oth (k:=(w.heap.size+1+1)) (by have:=C.out;omega) 1 (.bool ah))
  rw[←J]at bi
  have bo:=hid (by rw[J];exact((aK.set 0 (.slice aa ae.length V)).set 1 (.bool ah)):Mq w0.heap.size (w.heap.size+1+1) #[.slice aa ae.length V,.bool ah] 95 bm bf)
  have bv:=hid ((dj.out.low (g:=(w.heap.size+1+1)) (az.bk.lt) 0 (.slice aa ae.length V)).low (g:=(w.heap.size+1+1)) (az.bk.lt) 1 (.bool ah))
  rw[←J]at bv
  have bH:=hid ((dF.set (g:=(w.heap.size+1+1)) (.inr (by have:=C.out;omega)) 0 (.slice aa ae.length V)).set (g:=(w.heap.size+1+1)) (.inr (by have:=C.out;omega)) 1 (.bool ah))
  rw[←J]at bH
  have ek:=hid (show bf.heap.size=aY.heap.size by rw[J];simp)
  have aV:=hid (show RelIn M w0 l a cap N0 s j E pl pd true pg psg T v w ((w.heap.size+1+1)) bf from⟨atQ (RX),bdQ (RX),bm,aa,V,_,ah,_,bt.out,bH.out,bh.out,bi.out,bo.out,bv.out,HBL.out,way_start HTM.out (dr.out) (OX.out) (SX.out)⟩)
  have HGX:=hid C.out
  have cS:=bt.c
  have cK:=bh.bk.c5
  have cC:=bi.bk.c2
  have bY:=bo.bk.c2
  rw[J]at cS cK cC bY
  go_wp2
  rw[←J]
  clear dK dZ ec dA eb cS cK cC bY J
  obtain⟨gX,hgX⟩:∃gX,gX=(w.heap.size+1+1):=⟨_,rfl⟩
  rw[←hgX]at aV HGX⊢
  clear hgX bh bi bo bv bt bH
  go_loopw [8] (fun _ wr=>RelIn M w0 l a cap N0 s j E pl pd true pg psg T v w gX wr) (fun _ wr=>msr l.length w0.heap.size wr)
  case atStart=>exact aV.out
  case round=>
   obtain⟨m,bd,vr,aT,cT,tt,hh,B,hs,hg,hP,hR,hXB,hT,hBB,hway⟩:=hrel
   have Sr:=hid hs
   have Gr':=hid hg
   have Pr:=hid hP
   have Rr:=hid hR
   have XBr:=hid hXB
   have Xr:=hid hT
   have HBB:=hid hBB
   have HMS:=hid (msr_of hs)
   clear hs hg hP hR hXB hT hBB
   rcases hway with ⟨rfl,hTT,hwk⟩|⟨rfl,lv,tg,t',gf,hgt,hok,hTT,hgf,hst,hlv⟩
   ·
    have HTT:=hid hTT
    have HWK:=hid hwk
    clear hTT hwk
    have bn:=Sr.c
    have b0:=Pr.bk.c5
    have b4:=Rr.bk.c2
    have bC:=Rr.bk.f
    have bN:=XBr.bk.c2
    go_wp2
    clear bn b0 b4 bC bN
    obtain⟨bD,b1⟩:=(Rr.bk.put2 (.slice aT tt.length cT) (.bool hh)).c2
    exact bodyPost_ret (v:= .agg #[.slice aT tt.length cT,.bool hh]) (by simp[results,Tryz.results112,go_sem,bD,b1]) rfl (by rw[HTT.out];exact rq_end HLT.out (show Sq w0 l a cap N0 s m true _ _ from Sr.out) Gr'.out Rr.out Xr.out (by exact Nat.le_succ _) (by exact HBB.out) (HWK.out))
   ·
    have HGT:=hid hgt
    have HOK:=hid hok
    have HGF:=hid hgf
    have HTE:=hid hTT
    have hiso:=goes_5 hlv hst
    have HJL:=hid (show m≤l.length from hok.2.1)
    have HK:=hid (fun W2 (h2:Sq w0 l a cap N0 s m false vr W2)=>kind_any W2 h2 HC.out HL.out)
    have HTT:=hid (hTT.trans (go_stop hiso (by omega)))
    clear hiso hgt hok hgf hTT hst hlv
    have bn:=Sr.c
    have b0:=Pr.bk.c5
    have b4:=Rr.bk.c2
    have bC:=Rr.bk.f
    have bN:=XBr.bk.c2
    go_wp2
    clear bn b0 b4 bC bN
    obtain⟨bD,b1⟩:=(Rr.bk.put2 (.slice aT tt.length cT) (.bool hh)).c2
    exact bodyPost_ret (v:= .agg #[.slice aT tt.length cT,.bool hh]) (by simp[results,Tryz.results112,go_sem,bD,b1]) rfl (by rw[HTT.out];exact rq_end HLT.out (show Sq w0 l a cap N0 s m false _ _ from Sr.out) Gr'.out Rr.out Xr.out (by exact Nat.le_succ _) (by exact HBB.out) (HGT.out))
 |false=>
  have hcm:comma l j=false:=by have h:=HCN.out;simpa using h
  rw[hcm]at HCA
  clear hcm
  obtain⟨c5,c6,c7,c8⟩:=S1.c
  have m9:=P2.bk.c5
  have aM:=R3.bk.c2
  have aG:=aX.bk.c2
  rw[aj,hW]at c5 c6 c7 c8 m9 aM aG
  go_enter Tryz.func112,Tryz.ntmps112
  go_wp2_with fail
  rw[←hW,←aj]
  clear hW aj c5 c6 c7 c8 m9 aM aG
  refine(HCA.out).mono ?_
  rintro e dc ⟨rfl,F⟩
  have aH:=hid (S1.keep F)
  have aB:=hid (P2.keep F)
  have a8:=hid (R3.keep F)
  have az:=hid (aX.keep F)
  have bs:=hid (G4.trans (Gr.quiet F))
  clear F
  have bu:=aH.c
  have bG:=aB.bk.c5
  have bO:=a8.bk.c2
  have bB:=az.bk.c2
  go_wp2_with fail
  clear bu bG bO bB
  refine(part_any _ _ _ _ _ _ _).mono ?_
  rintro e aY ⟨rfl,a7⟩
  have aF:=hid (aH.keep a7)
  have ch:=hid (aB.keep a7)
  have bp:=hid (a8.keep a7)
  have aW:=hid (az.keep a7)
  have d5:=hid (bs.trans (Gr.quiet a7))
  clear a7
  have d8:=aF.c
  have du:=ch.bk.c5
  have d9:=bp.bk.c2
  have de:=aW.bk.c2
  go_wp2_with fail
  clear d8 du d9 de
  refine(HX.out v aY aF.out).mono ?_
  rintro e ce ⟨T,al,ad,b6,rfl,s9,aE,t9,cl⟩
  have ca:=hid s9
  have cm:=hid (ch.go aE)
  have bX:=hid (bp.go aE)
  have aJ:=hid (aW.go aE)
  have dl:=hid (d5.trans aE)
  have dW:=hid t9
  have dy:=hid cl
  obtain⟨Z,ab,rfl,dC⟩:=t9.lies
  clear s9 t9 aE cl dC
  have HBL:=hid (show w.heap.size+1<_ from bp.bk.lt)
  have d6:=ca.c
  have dR:=cm.bk.c5
  have df:=bX.bk.c2
  have dY:=aJ.bk.c2
  have dn:=aJ.bk.f
  obtain⟨be,N⟩:∃Wx,Wx=((ce.setCell ⟨(w.heap.size+1+1),0,none⟩ (.slice Z al.length ab)).setCell ⟨(w.heap.size+1+1),1,none⟩ (.bool ad)):=⟨_,rfl⟩
  have bA:=hid (by rw[N];exact((ca.out).mset aJ.out 0 _).mset (aJ.set 0 (.slice Z al.length ab)) 1 _:Sq w0 l a cap N0 s (atQ RX) (bdQ RX) b6 be)
  have bg:=hid ((cm.oth (k:=(w.heap.size+1+1)) (by have:=C.out;omega) 0 (.slice Z al.length ab)).oth (k:=(w.heap.size+1+1)) (by have:=C.out;omega) 1 (.bool ad))
  rw[←N]at bg
  have bb:=hid ((bX.oth (k:=(w.heap.size+1+1)) (by have:=C.out;omega) 0 (.slice Z al.length ab)).oth (k:=(w.heap.size+1+1)) (by have:=C.out;omega) 1 (.bool ad))
  rw[←N]at bb
  have b3:=hid (by rw[N];exact((aJ.set 0 (.slice Z al.length ab)).set 1 (.bool ad)):Mq w0.heap.size (w.heap.size+1+1) #[.slice Z al.length ab,.bool ad] 95 b6 be)
  have bK:=hid ((dW.out.low (g:=(w.heap.size+1+1)) (aW.bk.lt) 0 (.slice Z al.length ab)).low (g:=(w.heap.size+1+1)) (aW.bk.lt) 1 (.bool ad))
  rw[←N]at bK
  have bx:=hid ((dl.set (g:=(w.heap.size+1+1)) (.inr (by have:=C.out;omega)) 0 (.slice Z al.length ab)).set (g:=(w.heap.size+1+1)) (.inr (by have:=C.out;omega)) 1 (.bool ad))
  rw[←N]at bx
  have ep:=hid (show be.heap.size=ce.heap.size by rw[N];simp)
  have aV:=hid (show RelIn M w0 l a cap N0 s j E pl pd false pg psg T v w ((w.heap.size+1+1)) be from⟨atQ (RX),bdQ (RX),b6,Z,ab,_,ad,_,bA.out,bx.out,bg.out,bb.out,b3.out,bK.out,HBL.out,way_start HTM.out (dy.out) (OX.out) (SX.out)⟩)
  have HGX:=hid C.out
  have cb:=bA.c
  have bS:=bg.bk.c5
  have ct:=bb.bk.c2
  have cw:=b3.bk.c2
  rw[N]at cb bS ct cw
  go_wp2
  rw[←N]
  clear d6 dR df dY dn cb bS ct cw N
  obtain⟨gX,hgX⟩:∃gX,gX=(w.heap.size+1+1):=⟨_,rfl⟩
  rw[←hgX]at aV HGX⊢
  clear hgX bg bb b3 bK bA bx
  go_loopw [8] (fun _ wr=>RelIn M w0 l a cap N0 s j E pl pd false pg psg T v w gX wr) (fun _ wr=>msr l.length w0.heap.size wr)
  case atStart=>exact aV.out
  case round=>
   obtain⟨m,bd,vr,aT,cT,tt,hh,B,hs,hg,hP,hR,hXB,hT,hBB,hway⟩:=hrel
   have Sr:=hid hs
   have Gr':=hid hg
   have Pr:=hid hP
   have Rr:=hid hR
   have XBr:=hid hXB
   have Xr:=hid hT
   have HBB:=hid hBB
   have HMS:=hid (msr_of hs)
   clear hs hg hP hR hXB hT hBB
   rcases hway with ⟨rfl,hTT,hwk⟩|⟨rfl,lv,tg,t',gf,hgt,hok,hTT,hgf,hst,hlv⟩
   ·
    have HTT:=hid hTT
    have HWK:=hid hwk
    clear hTT hwk
    have ax:=Sr.c
    have au:=Pr.bk.c5
    have an:=Rr.bk.c2
    have ao:=Rr.bk.f
    have aq:=XBr.bk.c2
    go_wp2
    clear ax au an ao aq
    obtain⟨dp,dM⟩:=(Rr.bk.put2 (.slice aT tt.length cT) (.bool hh)).c2
    exact bodyPost_ret (v:= .agg #[.slice aT tt.length cT,.bool hh]) (by simp[results,Tryz.results112,go_sem,dp,dM]) rfl (by rw[HTT.out];exact rq_end HLT.out (show Sq w0 l a cap N0 s m true _ _ from Sr.out) Gr'.out Rr.out Xr.out (by exact Nat.le_succ _) (by exact HBB.out) (HWK.out))
   ·
    have HGT:=hid hgt
    have HOK:=hid hok
    have HGF:=hid hgf
    have HTE:=hid hTT
    have hiso:=goes_5 hlv hst
    have HJL:=hid (show m≤l.length from hok.2.1)
    have HK:=hid (fun W2 (h2:Sq w0 l a cap N0 s m false vr W2)=>kind_any W2 h2 HC.out HL.out)
    by_cases h24:kd l m=24
    case neg=>
     have HTT:=hid (hTT.trans (go_stop (by rw[hiso];simp[h24]) (by omega)))
     obtain⟨c,hcc⟩:∃c,kd l m=c:=⟨_,rfl⟩
     rw[hcc]at HK h24
     obtain⟨q1,q2⟩:=ne_facts h24
     clear hiso hgt hok hgf hTT hst hlv h24 hcc
     have ax:=Sr.c
     have au:=Pr.bk.c5
     have an:=Rr.bk.c2
     have ao:=Rr.bk.f
     have aq:=XBr.bk.c2
     go_wp2_with fail
     clear ax au an ao aq
     refine(HK.out _ Sr.out).mono ?_
     rintro e cO ⟨rfl,o⟩
     have ag:=hid (Sr.keep o)
     have a3:=hid (Pr.keep o)
     have G:=hid (Rr.keep o)
     have ap:=hid (XBr.keep o)
     have aD:=hid (Xr.keep o)
     have aQ:=hid (Gr'.trans (Gr.quiet o))
     clear o
     have aA:=ag.c
     have aP:=a3.bk.c5
     have aO:=G.bk.c2
     have aS:=G.bk.f
     have aC:=ap.bk.c2
     go_wp2
     clear aA aP aO aS aC
     obtain⟨d2,dL⟩:=(G.bk.put2 (.slice aT tt.length cT) (.bool hh)).c2
     exact bodyPost_ret (v:= .agg #[.slice aT tt.length cT,.bool hh]) (by simp[results,Tryz.results112,go_sem,d2,dL]) rfl (by rw[HTT.out];exact rq_end HLT.out (show Sq w0 l a cap N0 s m false _ _ from ag.out) aQ.out G.out aD.out (by exact Nat.le_succ _) (by exact HBB.out) (HGT.out))
    case pos=>
     have HGO:=hid (show goes (kd l m) lv tg (cp 5 false pg)=true by rw[hiso,h24];rfl)
     have bc:=hid h24
     have HML:=hid (kd_lt (l:=l) (i:=m) (by omega))
     have HWX:=hid (gt_wk1 hgt hok)
     rw[h24]at HK
     clear hiso hgt hok hgf hTT hst hlv h24
     by_cases h6:kd l (m+1)=6
     case pos=>
      have H6:=hid h6
      obtain⟨x,hx⟩:∃x,tx l (m+1)=x:=⟨_,rfl⟩
      obtain⟨y,hy⟩:∃y,pr.ta l (m+1)=y:=⟨_,rfl⟩
      have dm:=hid hx.symm
      have HTY:=hid (fun W2 (h2:Sq w0 l a cap N0 s (m+1) false vr W2)=>take_yes 6 W2 h2 HC.out HL.out (by decide) (by decide) h6)
      rw[hx,hy]at HTY
      clear h6 hx hy
      have ax:=Sr.c
      have au:=Pr.bk.c5
      have an:=Rr.bk.c2
      have ao:=Rr.bk.f
      have aq:=XBr.bk.c2
      go_wp2_with fail
      clear ax au an ao aq
      refine(HK.out _ Sr.out).mono ?_
      rintro e cO ⟨rfl,o⟩
      have ag:=hid (Sr.keep o)
      have a3:=hid (Pr.keep o)
      have G:=hid (Rr.keep o)
      have ap:=hid (XBr.keep o)
      have aD:=hid (Xr.keep o)
      have aQ:=hid (Gr'.trans (Gr.quiet o))
      clear o
      have aA:=ag.c
      have aP:=a3.bk.c5
      have aO:=G.bk.c2
      have aS:=G.bk.f
      have aC:=ap.bk.c2
      go_wp2_with fail
      clear aA aP aO aS aC
      refine(take_yes 24 _ ag.out HC.out HL.out (by decide) (by decide) bc.out).mono ?_
      rintro e dT ⟨rfl,aR,D⟩
      have aL:=hid aR
      have aU:=hid (a3.go D)
      have aw:=hid (G.go D)
      have aN:=hid (ap.go D)
      have bq:=hid (aD.go D)
      have bw:=hid (aQ.trans D)
      clear aR D
      have bL:=aL.c
      have b8:=aU.bk.c5
      have bl:=aw.bk.c2
      have b5:=aw.bk.f
      have b2:=aN.bk.c2
      go_wp2_with fail
      clear bL b8 bl b5 b2
      refine(HTY.out _ aL.out).mono ?_
      rintro e A ⟨rfl,s9,g9⟩
      have cL:=hid s9
      have cn:=hid (aU.go g9)
      have c1:=hid (aw.go g9)
      have cy:=hid (aN.go g9)
      have dq:=hid (bq.go g9)
      have dv:=hid (bw.trans g9)
      clear s9 g9
      have en:=hid (show w.heap.size<A.heap.size from cn.bk.lt)
      have eh:=hid (show(w.heap.size+1)<A.heap.size from c1.bk.lt)
      have er:=hid (show gX<A.heap.size from cy.bk.lt)
      obtain⟨a2,a6⟩:∃Wx,Wx=A.alloc (.cells #[.int .i64 6,.string x,.int .i64 y] 86):=⟨_,rfl⟩
      have am:Below A.heap.size A a2:=by rw[a6];exact(Below.refl _ _).alloc (Nat.le_refl _) _
      have bZ:=hid (show Mq w0.heap.size A.heap.size #[.int .i64 6,.string x,.int .i64 y] 86 vr a2 from Mq.of cL.out (by rw[a6];exact Bk.new _ _ _) (Nat.le_refl _))
      have dz:=hid (show a2.heap.size=A.heap.size+1 by rw[a6];simp)
      have b7:=hid (cL.keep am)
      have co:=hid (cn.keep am)
      have bW:=hid (c1.keep am)
      have aZ:=hid (cy.keep am)
      have db:=hid (dq.keep am)
      have ds:=hid (dv.trans (Gr.quiet am))
      clear am
      have cc:=b7.c
      have c0:=co.bk.c5
      have cQ:=bW.bk.c2
      have cd:=aZ.bk.c2
      have cq:=aZ.bk.f
      have cW:=bZ.bk.c3
      rw[a6]at cc c0 cQ cd cq cW
      go_wp2_with fail
      rw[←a6]
      clear cc c0 cQ cd cq cW a6
      have bQ:=db.lies'
      refine(over1_any dz.out 13 0 x tt bQ (wk_mono HWX.out (by have:=ba.out;have:=HJL.out;omega))).mono ?_
      rintro e br ⟨T,z,r,rfl,hz,hp,cG,hr⟩
      have u2130:=Tq.of (b7.alloc (.cells #[.slice aT tt.length cT] 26)) hp hr
      rw[hz]at u2130
      have dN:=hid (show(a2.alloc (.cells #[.slice aT tt.length cT] 26)).heap.size=a2.heap.size+1 by simp)
      rw[dN.out]at u2130
      have ea:=hid u2130
      have af:Below a2.heap.size a2 br:=((Below.refl _ _).alloc (Nat.le_refl _) _).trans (cG.mono (by simp))
      have b9:=hid (b7.keep af)
      have cr:=hid (co.keep af)
      have bP:=hid (bW.keep af)
      have ar:=hid (aZ.keep af)
      have dJ:=hid (bZ.keep af)
      have ef:=hid (db.keep af)
      have dt:=hid (ds.trans (Gr.quiet af))
      obtain⟨U,O,rfl,-⟩:=u2130.lies
      clear u2130 hz hp hr cG af bQ
      have HXL:=hid (show gX<_ from aZ.bk.lt)
      have HRL:=hid (show w.heap.size+1<_ from Nat.lt_trans HGX.out HXL.out)
      have dG:=b9.c
      have d4:=cr.bk.c5
      have dP:=bP.bk.c2
      have dH:=ar.bk.c2
      have dV:=ar.bk.f
      have d3:=dJ.bk.c3
      go_wp2
      clear dG d4 dP dH dV d3
      go_roundw
      case rel=>
       obtain⟨bM,ak⟩:∃Wx,Wx=((br.setCell ⟨gX,0,none⟩ (.slice U (makeT (nd0 13 0 x) [tt]).length O)).setCell ⟨gX,1,none⟩ (.bool false)):=⟨_,rfl⟩
       have di:=hid (by rw[ak];exact((b9.out).mset ar.out 0 _).mset (ar.set 0 (.slice U (makeT (nd0 13 0 x) [tt]).length O)) 1 _:Sq w0 l a cap N0 s (m+2) false vr bM)
       have bR:=hid ((cr.oth (k:=gX) (by have:=HGX.out;omega) 0 (.slice U (makeT (nd0 13 0 x) [tt]).length O)).oth (k:=gX) (by have:=HGX.out;omega) 1 (.bool false))
       rw[←ak]at bR
       have bU:=hid ((bP.oth (k:=gX) (by have:=HGX.out;omega) 0 (.slice U (makeT (nd0 13 0 x) [tt]).length O)).oth (k:=gX) (by have:=HGX.out;omega) 1 (.bool false))
       rw[←ak]at bU
       have d0:=hid (by rw[ak];exact((ar.set 0 (.slice U (makeT (nd0 13 0 x) [tt]).length O)).set 1 (.bool false)):Mq w0.heap.size gX #[.slice U (makeT (nd0 13 0 x) [tt]).length O,.bool false] 95 vr bM)
       have c4:=hid ((ea.out.low (g:=gX) (Nat.lt_succ_of_lt HXL.out) 0 (.slice U (makeT (nd0 13 0 x) [tt]).length O)).low (g:=gX) (Nat.lt_succ_of_lt HXL.out) 1 (.bool false))
       rw[←ak]at c4
       have c9:=hid ((dt.set (g:=gX) (.inr (by have:=HGX.out;omega)) 0 (.slice U (makeT (nd0 13 0 x) [tt]).length O)).set (g:=gX) (.inr (by have:=HGX.out;omega)) 1 (.bool false))
       rw[←ak]at c9
       have em:=hid (show bM.heap.size=br.heap.size by rw[ak];simp)
       rw[←ak]
       have hw:=way_in HM.out ba.out HGT.out HOK.out HTE.out HGF.out HGO.out bc.out x (fun _=>dm.out)
       rw[show innR l t' m=fin 13 0 (tx l (m+1)) [t'] (m+2)from if_pos H6.out]at hw
       exact⟨(m+2),false,vr,U,O,_,false,_,di.out,c9.out,bR.out,bU.out,d0.out,c4.out,Nat.lt_succ_of_lt HRL.out,hw⟩
      case measure=>
       have bJ:=(b9.mset ar.out 0 (.slice U (makeT (nd0 13 0 x) [tt]).length O)).mset (ar.set 0 _) 1 (.bool false)
       rw[msr_of bJ,HMS.out]
       have:=HML.out
       have:=kd_lt (l:=l) (i:=m+1) (by have:=H6.out;omega)
       simp
       omega
     case neg=>
      have H6:=hid h6
      clear h6
      have ax:=Sr.c
      have au:=Pr.bk.c5
      have an:=Rr.bk.c2
      have ao:=Rr.bk.f
      have aq:=XBr.bk.c2
      go_wp2_with fail
      clear ax au an ao aq
      refine(HK.out _ Sr.out).mono ?_
      rintro e cO ⟨rfl,o⟩
      have ag:=hid (Sr.keep o)
      have a3:=hid (Pr.keep o)
      have G:=hid (Rr.keep o)
      have ap:=hid (XBr.keep o)
      have aD:=hid (Xr.keep o)
      have aQ:=hid (Gr'.trans (Gr.quiet o))
      clear o
      have aA:=ag.c
      have aP:=a3.bk.c5
      have aO:=G.bk.c2
      have aS:=G.bk.f
      have aC:=ap.bk.c2
      go_wp2_with fail
      clear aA aP aO aS aC
      refine(take_yes 24 _ ag.out HC.out HL.out (by decide) (by decide) bc.out).mono ?_
      rintro e dT ⟨rfl,aR,D⟩
      have aL:=hid aR
      have aU:=hid (a3.go D)
      have aw:=hid (G.go D)
      have aN:=hid (ap.go D)
      have bq:=hid (aD.go D)
      have bw:=hid (aQ.trans D)
      clear aR D
      have bL:=aL.c
      have b8:=aU.bk.c5
      have bl:=aw.bk.c2
      have b5:=aw.bk.f
      have b2:=aN.bk.c2
      go_wp2_with fail
      clear bL b8 bl b5 b2
      refine(take_no 6 _ aL.out HC.out HL.out (by decide) (by decide) (.inr H6.out)).mono ?_
      rintro e A ⟨rfl,ck,a5⟩
      have cj:=hid ck
      have cI:=hid (aU.go a5)
      have cg:=hid (aw.go a5)
      have cD:=hid (aN.go a5)
      have d7:=hid (bq.go a5)
      have dX:=hid (bw.trans a5)
      clear ck a5
      have ej:=hid (show w.heap.size<A.heap.size from cI.bk.lt)
      have eg:=hid (show(w.heap.size+1)<A.heap.size from cg.bk.lt)
      have eo:=hid (show gX<A.heap.size from cD.bk.lt)
      obtain⟨a1,a4⟩:∃Wx,Wx=A.alloc (.cells #[.int .i64 0,.string ⟨#[]⟩,.int .i64 0] 86):=⟨_,rfl⟩
      have ay:Below A.heap.size A a1:=by rw[a4];exact(Below.refl _ _).alloc (Nat.le_refl _) _
      have cM:=hid (show Mq w0.heap.size A.heap.size #[.int .i64 0,.string ⟨#[]⟩,.int .i64 0] 86 vr a1 from Mq.of cj.out (by rw[a4];exact Bk.new _ _ _) (Nat.le_refl _))
      have dB:=hid (show a1.heap.size=A.heap.size+1 by rw[a4];simp)
      have bI:=hid (cj.keep ay)
      have cZ:=hid (cI.keep ay)
      have cB:=hid (cg.keep ay)
      have bj:=hid (cD.keep ay)
      have bV:=hid (d7.keep ay)
      have dx:=hid (dX.trans (Gr.quiet ay))
      clear ay
      have cY:=bI.c
      have cz:=cZ.bk.c5
      have cX:=cB.bk.c2
      have cJ:=bj.bk.c2
      have cU:=bj.bk.f
      have ci:=cM.bk.c3
      rw[a4]at cY cz cX cJ cU ci
      go_wp2_with fail
      rw[←a4]
      clear cY cz cX cJ cU ci a4
      have da:=bV.lies'
      refine(over1_any dB.out 13 0 ⟨#[]⟩ tt da (wk_mono HWX.out (by have:=ba.out;have:=HJL.out;omega))).mono ?_
      rintro e bF ⟨T,z,r,rfl,hz,hp,cA,hr⟩
      have u2160:=Tq.of (bI.alloc (.cells #[.slice aT tt.length cT] 26)) hp hr
      rw[hz]at u2160
      have dh:=hid (show(a1.alloc (.cells #[.slice aT tt.length cT] 26)).heap.size=a1.heap.size+1 by simp)
      rw[dh.out]at u2160
      have dO:=hid u2160
      have ai:Below a1.heap.size a1 bF:=((Below.refl _ _).alloc (Nat.le_refl _) _).trans (cA.mono (by simp))
      have bE:=hid (bI.keep ai)
      have bT:=hid (cZ.keep ai)
      have cH:=hid (cB.keep ai)
      have a0:=hid (bj.keep ai)
      have dS:=hid (cM.keep ai)
      have ei:=hid (bV.keep ai)
      have dk:=hid (dx.trans (Gr.quiet ai))
      obtain⟨Q,K,rfl,-⟩:=u2160.lies
      clear u2160 hz hp hr cA ai da
      have HXL:=hid (show gX<_ from bj.bk.lt)
      have HRL:=hid (show w.heap.size+1<_ from Nat.lt_trans HGX.out HXL.out)
      have ed:=bE.c
      have dE:=bT.bk.c5
      have dw:=cH.bk.c2
      have d1:=a0.bk.c2
      have dU:=a0.bk.f
      have dg:=dS.bk.c3
      go_wp2
      clear ed dE dw d1 dU dg
      go_roundw
      case rel=>
       obtain⟨bz,ac⟩:∃Wx,Wx=((bF.setCell ⟨gX,0,none⟩ (.slice Q (makeT (nd0 13 0 ⟨#[]⟩) [tt]).length K)).setCell ⟨gX,1,none⟩ (.bool false)):=⟨_,rfl⟩
       have dD:=hid (by rw[ac];exact((bE.out).mset a0.out 0 _).mset (a0.set 0 (.slice Q (makeT (nd0 13 0 ⟨#[]⟩) [tt]).length K)) 1 _:Sq w0 l a cap N0 s (m+1) true vr bz)
       have cF:=hid ((bT.oth (k:=gX) (by have:=HGX.out;omega) 0 (.slice Q (makeT (nd0 13 0 ⟨#[]⟩) [tt]).length K)).oth (k:=gX) (by have:=HGX.out;omega) 1 (.bool false))
       rw[←ac]at cF
       have cV:=hid ((cH.oth (k:=gX) (by have:=HGX.out;omega) 0 (.slice Q (makeT (nd0 13 0 ⟨#[]⟩) [tt]).length K)).oth (k:=gX) (by have:=HGX.out;omega) 1 (.bool false))
       rw[←ac]at cV
       have dQ:=hid (by rw[ac];exact((a0.set 0 (.slice Q (makeT (nd0 13 0 ⟨#[]⟩) [tt]).length K)).set 1 (.bool false)):Mq w0.heap.size gX #[.slice Q (makeT (nd0 13 0 ⟨#[]⟩) [tt]).length K,.bool false] 95 vr bz)
       have dd:=hid ((dO.out.low (g:=gX) (Nat.lt_succ_of_lt HXL.out) 0 (.slice Q (makeT (nd0 13 0 ⟨#[]⟩) [tt]).length K)).low (g:=gX) (Nat.lt_succ_of_lt HXL.out) 1 (.bool false))
       rw[←ac]at dd
       have cE:=hid ((dk.set (g:=gX) (.inr (by have:=HGX.out;omega)) 0 (.slice Q (makeT (nd0 13 0 ⟨#[]⟩) [tt]).length K)).set (g:=gX) (.inr (by have:=HGX.out;omega)) 1 (.bool false))
       rw[←ac]at cE
       have ee:=hid (show bz.heap.size=bF.heap.size by rw[ac];simp)
       rw[←ac]
       have hw:=way_in HM.out ba.out HGT.out HOK.out HTE.out HGF.out HGO.out bc.out ⟨#[]⟩ (fun h=>absurd h H6.out)
       rw[show innR l t' m= .bad (m+1)from if_neg H6.out]at hw
       exact⟨(m+1),true,vr,Q,K,_,false,_,dD.out,cE.out,cF.out,cV.out,dQ.out,dd.out,Nat.lt_succ_of_lt HRL.out,hw⟩
      case measure=>
       have bJ:=(bE.mset a0.out 0 (.slice Q (makeT (nd0 13 0 ⟨#[]⟩) [tt]).length K)).mset (a0.set 0 _) 1 (.bool false)
       rw[msr_of bJ,HMS.out]
       have:=HML.out
       skip
       simp
       try omega
end
end Go.Proofs.YtebjmdpkobhcbaaGreatDoor.qs

namespace Go.Proofs.YtebjmdpkobhcbaaGreatDoor.qs
open Lib (hid)
open Go.ChangeShapes Go.WideShapes Go.ChangeAt Go.RowKit
open tk (Tk)
open nd (Nd PT KidV makeT)
open ps (Ps posOk top)
open pe
open rt (isLval)
open operand (begins)
open lv (opLevel levelOf has)
open pr (Bk Gr X0 below_drewN eq_facts ne_facts fld_k fld_s)
set_option linter.unusedVariables false
set_option linter.unusedSimpArgs false
set_option maxRecDepth 20000
section
variable {w0:World} {l:List Tk} {a:Option Addr} {cap:Nat} {N0:List Tk} {s j:Nat} {v:Value} {E:Ps→Nat→R} {M:Nat}
set_option maxHeartbeats 12800000 in
theorem in_yes(pl:Int)(pd pi pg psg:Bool)(w:World)(hst:Sq w0 l a cap N0 s j false v w)(hc:tk.Lies w0.heap.size w0 a l)(hl:l.length≤6000)(hM:∀t∈l,t.s.size≤M)(hC:pi=false∧comma l j=true)(RX:R)(hX:∀(v:Value) (w:World),Sq w0 l a cap N0 s j false v w→Calls Tryz.prog 63 #[.pointer (some ⟨w0.heap.size,0,none⟩),.agg #[.int .i64 6,.bool false,.bool pi,.bool pg,.bool false]] w (Rq w0 l a cap N0 s j v w RX))(oX:Ok M l j RX)(sX:∀lv tg t m,RX= .ok lv tg t m→goes (kd l m) lv tg (cp 6 pi pg)=false∧5≤lv)(hE:CallS w0 l a cap N0 s E (j+1))(oE:∀p i,i≤l.length→Ok M l i (E p i))(hN0:N0.length+l.length≤200000):
  Calls Tryz.prog 112 #[.pointer (some ⟨w0.heap.size,0,none⟩),.agg #[.int .i64 pl,.bool pd,.bool pi,.bool pg,.bool psg]] w (Rq w0 l a cap N0 s j v w (inR E l pi pg j RX)):=by
 have HC:=hid hc
 have HL:=hid (show l.length≤100000 by omega)
 have aK:=hid hl
 have HX:=hid hX
 have OX:=hid oX
 have HAT:=hid (ok_at oX)
 have SX:=hid sX
 have HM:=hid hM
 have fa:=hid hN0
 obtain⟨T,hT⟩:∃T,T=inR E l pi pg j RX:=⟨_,rfl⟩
 have HT:=hid hT
 rw[←hT]
 obtain⟨W,hW⟩:∃Wx,Wx=(w.alloc (.cells #[.int .i64 pl,.bool pd,.bool pi,.bool pg,.bool psg] 44)).alloc (.cells #[.slice none 0 0,.bool false] 95):=⟨_,rfl⟩
 have hB:Below w.heap.size w W:=by rw[hW];exact((Below.refl _ _).alloc (Nat.le_refl _) _).alloc (by simp) _
 have P0:=hid (show Mq w0.heap.size w.heap.size #[.int .i64 pl,.bool pd,.bool pi,.bool pg,.bool psg] 44 v W from Mq.of hst (by rw[hW];exact(Bk.new _ _ _).alloc _) (Nat.le_refl _))
 have R0:=hid (show Mq w0.heap.size (w.heap.size+1) #[.slice none 0 0,.bool false] 95 v W from Mq.of hst (by rw[hW];have:=Bk.new (w.alloc (.cells #[.int .i64 pl,.bool pd,.bool pi,.bool pg,.bool psg] 44)) #[.slice none 0 0,.bool false] 95;simpa using this) (Nat.le_succ _))
 have S0:=hid (hst.keep hB)
 have G0:=hid (show Gr (X0 w0.heap.size) v v w W from Gr.quiet hB)
 have HLT:=hid hst.lt
 have HBS:=hid hB.size
 have HJN:=hid hst.jn
 have HWS:=hid (show W.heap.size=w.heap.size+2 by rw[hW];simp)
 clear hB hst
 obtain⟨W2,bY⟩:∃W2,W2=W.alloc (.cells #[.slice none 0 0,.bool false] 95):=⟨_,rfl⟩
 have bF:Below W.heap.size W W2:=by rw[bY];exact(Below.refl _ _).alloc (Nat.le_refl _) _
 have HSW:=hid (show W.heap.size=w.heap.size+1+1 by rw[hW];simp)
 have cK:=hid (show Mq w0.heap.size (w.heap.size+1+1) #[.slice none 0 0,.bool false] 95 v W2 by rw[←HSW.out];exact Mq.of S0.out (by rw[bY];exact Bk.new _ _ _) (Nat.le_refl _))
 have F:=hid (show w.heap.size+1<w.heap.size+1+1 by omega)
 have S1:=hid (S0.keep bF)
 have P2:=hid (P0.keep bF)
 have R3:=hid (R0.keep bF)
 have G4:=hid (G0.trans (Gr.quiet bF))
 obtain⟨rfl,hcm⟩:=hC
 have HCM:=hid hcm
 have HCA:=hid (comma_any W2 S1.out hc (by omega))
 rw[hcm]at HCA
 have HJ:=hid (kd_lt (l:=l) (i:=j) (by unfold comma at hcm;rw[Bool.and_eq_true,beq_iff_eq]at hcm;omega))
 have el:=hid (show kd l j=32 by unfold comma at hcm;rw[Bool.and_eq_true,beq_iff_eq]at hcm;exact hcm.1)
 have HLS:=hid (fun v2 W2 (h2:Sq w0 l a cap N0 s (j+1) false v2 W2)=>list_run 33 1 W2 h2 hc hl hE oE hN0 (.inl rfl) (.inl rfl))
 have HMO:=hid (multi_ok oE hM (by omega) HJ.out)
 have HLE:=hid (lend_le (endk:=33) oE HJ.out)
 have HTM:=hid (hT.trans (inR_yes ⟨rfl,hcm⟩))
 clear hX oX hE oE hc hl hM sX hN0 hT bF hcm
 obtain⟨c5,c6,c7,c8⟩:=S1.c
 have m9:=P2.bk.c5
 have dn:=R3.bk.c2
 have df:=cK.bk.c2
 rw[bY,hW]at c5 c6 c7 c8 m9 dn df
 go_enter Tryz.func112,Tryz.ntmps112
 go_wp2_with fail
 rw[←hW,←bY]
 clear hW bY c5 c6 c7 c8 m9 dn df
 refine(HCA.out).mono ?_
 rintro e fm ⟨rfl,b1⟩
 have ce:=hid (S1.keep b1)
 have cg:=hid (P2.keep b1)
 have ch:=hid (R3.keep b1)
 have cb:=hid (cK.keep b1)
 have dv:=hid (G4.trans (Gr.quiet b1))
 clear b1
 have em:=ce.c
 have ez:=cg.bk.c5
 have e3:=ch.bk.c2
 have eu:=cb.bk.c2
 go_upto_if 16 with (fail)
 clear em ez e3 eu
 go_cut [6,7]from 17 to 60 (fun _ _ wx=>RelIn M w0 l a cap N0 s j E pl pd false pg psg T v w (w.heap.size+1+1) wx)
 case first=>
  have az:=ce.c
  have a0:=cg.bk.c5
  have a1:=ch.bk.c2
  have e5:=cb.bk.c2
  go_wp2_with fail
  clear az a0 a1 e5
  refine(take_yes 32 _ ce.out HC.out HL.out (by decide) (by decide) el.out).mono ?_
  rintro e dU ⟨rfl,dD,b9⟩
  have d4:=hid dD
  have cI:=hid (cg.go b9)
  have cy:=hid (ch.go b9)
  have cC:=hid (cb.go b9)
  have ex:=hid (dv.trans b9)
  clear dD b9
  have dX:=d4.c
  have e8:=cI.bk.c5
  have eA:=cy.bk.c2
  have bf:=cC.bk.c2
  go_wp2_with fail
  clear dX e8 eA bf
  refine(HLS.out _ _ d4.out).mono ?_
  rintro e fd ⟨a5,c5,o,v5,rfl,s5,g5,l5,k5,x5⟩
  have S5:=hid s5
  have K5:=hid k5
  have X5:=hid x5
  have eX:=hid (show w.heap.size+1<dU.heap.size from cy.bk.lt)
  have eV:=hid (show w.heap.size+1+1<dU.heap.size from cC.bk.lt)
  have aP:=hid (cI.go g5)
  have aE:=hid (cy.go g5)
  have ba:=hid (cC.go g5)
  have ca:=hid (ex.trans g5)
  have L5:=hid l5
  clear s5 g5 l5 k5 x5
  obtain⟨LP,hLP⟩:∃LP,els E l 6 6 [] (j+1)=LP:=⟨_,rfl⟩
  obtain⟨m,hm⟩:∃m,(Lend l 33 LP).1=m:=⟨_,rfl⟩
  obtain⟨b5,aJ⟩:∃b,(Lend l 33 LP).2=b:=⟨_,rfl⟩
  rw[hLP]at S5 K5 X5 HLE
  rw[hm,aJ]at S5
  rw[hm]at K5 HLE
  have hmu:multi E l j=multiR l LP:=by rw[multi_eq,hLP]
  have HMB:=hid (show m≤l.length from S5.jn)
  have HJM:=hid HLE.out
  cases b5 with
  |true=>
   have HMUL:=hid (show multi E l j= .bad m by
    rw[hmu]
    clear S5 K5 X5 HLE
    cases LP with
    |bad m'=>rw[←hm];rfl
    |ok ps m'=>
     by_cases h:kd l m'=33
     ·have e:(Lend l 33 (.ok ps m'))=(m'+1,false):=if_pos h
      rw[e]at aJ
      cases aJ
     ·have e:(Lend l 33 (.ok ps m'))=(m',true):=if_neg h
      rw[e]at hm
      rw[←hm]
      exact if_neg h)
   clear hmu hm aJ hLP
   have bq:=S5.c
   have bv:=aP.bk.c5
   have bt:=aE.bk.c2
   have bb:=ba.bk.c2
   go_wp2_with fail
   clear bq bv bt bb
   refine(take_no 24 _ S5.out HC.out HL.out (by decide) (by decide) (.inl rfl)).mono ?_
   rintro e cG ⟨rfl,aj,D⟩
   have ai:=hid aj
   have ag:=hid (aP.go D)
   have af:=hid (aE.go D)
   have al:=hid (ba.go D)
   have bx:=hid (L5.go D)
   have bj:=hid (ca.trans D)
   clear aj D
   have bl:=ai.c
   have bs:=ag.bk.c5
   have bc:=af.bk.c2
   have bg:=al.bk.c2
   go_wp2_with fail
   clear bl bs bc bg
   refine(take_no 6 _ ai.out HC.out HL.out (by decide) (by decide) (.inl rfl)).mono ?_
   rintro e A ⟨rfl,aW,N⟩
   have aC:=hid aW
   have a8:=hid (ag.go N)
   have aM:=hid (af.go N)
   have aA:=hid (al.go N)
   have bH:=hid (bx.go N)
   have bG:=hid (bj.trans N)
   clear aW N
   have dr:=hid (show w.heap.size<A.heap.size from a8.bk.lt)
   have dt:=hid (show(w.heap.size+1)<A.heap.size from aM.bk.lt)
   have d1:=hid (show(w.heap.size+1+1)<A.heap.size from aA.bk.lt)
   obtain⟨U,K⟩:∃Wx,Wx=A.alloc (.cells #[.int .i64 0,.string ⟨#[]⟩,.int .i64 0] 86):=⟨_,rfl⟩
   have G:Below A.heap.size A U:=by rw[K];exact(Below.refl _ _).alloc (Nat.le_refl _) _
   have bE:=hid (show Mq w0.heap.size A.heap.size #[.int .i64 0,.string ⟨#[]⟩,.int .i64 0] 86 v5 U from Mq.of aC.out (by rw[K];exact Bk.new _ _ _) (Nat.le_refl _))
   have dy:=hid (show U.heap.size=A.heap.size+1 by rw[K];simp)
   have am:=hid (aC.keep G)
   have aB:=hid (a8.keep G)
   have ap:=hid (aM.keep G)
   have ak:=hid (aA.keep G)
   have bC:=hid (bH.keep G)
   have bU:=hid (bG.trans (Gr.quiet G))
   clear G
   have aR:=am.c
   have aF:=aB.bk.c5
   have a4:=ap.bk.c2
   have a2:=ak.bk.c2
   have aH:=bE.bk.c3
   rw[K]at aR aF a4 a2 aH
   go_wp2_with fail
   rw[←K]
   clear aR aF a4 a2 aH K
   refine(nd.make_all (nd0 13 0 ⟨#[]⟩) o a5 c5 _ bC.parts (Nat.le_trans K5.out.2.2 (by have:=HMB.out;have:=aK.out;omega)) (Nat.le_trans K5.out.1 (by decide)) (fun q hq t ht=>Nat.le_trans (K5.out.2.1 q hq t ht) (by decide))).mono ?_
   rintro e a6 ⟨T6,z6,r6,rfl,V,Z,b6,ah⟩
   obtain⟨aT,cT,eT⟩:=Z.form
   rw[show z6.length=(makeT (nd0 13 0 ⟨#[]⟩) o).length by rw[←V,List.length_map]]at eT
   subst eT
   have H6:=Tq.of am.out Z ah
   rw[V]at H6
   have HRB:=hid (show w.heap.size+1<U.heap.size from ap.bk.lt)
   have HXB:=hid (show w.heap.size+1+1<U.heap.size from ak.bk.lt)
   have aN:=hid (am.keep b6)
   have a9:=hid (aB.keep b6)
   have a3:=hid (ap.keep b6)
   have Q:=hid (ak.keep b6)
   have bN:=hid (bU.trans (Gr.quiet b6))
   have T6:=hid H6
   clear H6 V Z ah b6
   have bD:=aN.c
   have bB:=a9.bk.c5
   have bL:=a3.bk.c2
   have bo:=Q.bk.c2
   have bA:=Q.bk.f
   obtain⟨aa,C⟩:∃Wx,Wx=((a6.setCell ⟨(w.heap.size+1+1),0,none⟩ (.slice aT (makeT (nd0 13 0 ⟨#[]⟩) o).length cT)).setCell ⟨(w.heap.size+1+1),1,none⟩ (.bool false)):=⟨_,rfl⟩
   have aZ:=hid (by rw[C];exact((aN.out).mset Q.out 0 _).mset (Q.set 0 (.slice aT (makeT (nd0 13 0 ⟨#[]⟩) o).length cT)) 1 _:Sq w0 l a cap N0 s m true v5 aa)
   have ao:=hid ((a9.oth (k:=(w.heap.size+1+1)) (by have:=F.out;omega) 0 (.slice aT (makeT (nd0 13 0 ⟨#[]⟩) o).length cT)).oth (k:=(w.heap.size+1+1)) (by have:=F.out;omega) 1 (.bool false))
   rw[←C]at ao
   have an:=hid ((a3.oth (k:=(w.heap.size+1+1)) (by have:=F.out;omega) 0 (.slice aT (makeT (nd0 13 0 ⟨#[]⟩) o).length cT)).oth (k:=(w.heap.size+1+1)) (by have:=F.out;omega) 1 (.bool false))
   rw[←C]at an
   have aY:=hid (by rw[C];exact((Q.set 0 (.slice aT (makeT (nd0 13 0 ⟨#[]⟩) o).length cT)).set 1 (.bool false)):Mq w0.heap.size (w.heap.size+1+1) #[.slice aT (makeT (nd0 13 0 ⟨#[]⟩) o).length cT,.bool false] 95 v5 aa)
   have aO:=hid ((T6.low (g:=(w.heap.size+1+1)) (HXB.out) 0 (.slice aT (makeT (nd0 13 0 ⟨#[]⟩) o).length cT)).low (g:=(w.heap.size+1+1)) (HXB.out) 1 (.bool false))
   rw[←C]at aO
   have aQ:=hid ((bN.set (g:=(w.heap.size+1+1)) (.inr (by have:=F.out;omega)) 0 (.slice aT (makeT (nd0 13 0 ⟨#[]⟩) o).length cT)).set (g:=(w.heap.size+1+1)) (.inr (by have:=F.out;omega)) 1 (.bool false))
   rw[←C]at aQ
   have de:=hid (show aa.heap.size=a6.heap.size by rw[C];simp)
   have HMU:=hid (show multi E l j= .bad m from HMUL.out)
   rw[HMU.out]at HTM HMO
   have ay:=hid (show RelIn M w0 l a cap N0 s j E pl pd false pg psg T v w ((w.heap.size+1+1)) aa from⟨atQ (.bad m),bdQ (.bad m),v5,aT,cT,_,false,_,aZ.out,aQ.out,ao.out,an.out,aY.out,aO.out,HRB.out,way_start HTM.out ((wk_make K5.out.2.1 K5.out.1 (by have:=K5.out.2.2;have:=HJM.out;omega):Wk (2*(m-j)) _)) (HMO.out) (fun lv tg t m h=>multi_stuck (HMU.trans h))⟩)
   have aV:=aZ.c
   have aD:=ao.bk.c5
   have a7:=an.bk.c2
   have aX:=aY.bk.c2
   rw[C]at aV aD a7 aX
   go_wp2
   go_meet
   rw[←C]
   clear bD bB bL bo bA aV aD a7 aX C
   exact ay.out
  |false=>
   obtain⟨ps,hps,hmul⟩:∃ps,o=ps∧multi E l j=inn l ps m:=by
    have hx:=X5.out
    clear S5 K5 X5 HLE
    cases LP with
    |bad m'=>cases aJ
    |ok ps m'=>
     by_cases h:kd l m'=33
     ·have e:(Lend l 33 (.ok ps m'))=(m'+1,false):=if_pos h
      have e2:Lex l 33 (.ok ps m')=some ps:=if_pos h
      rw[e]at hm
      refine⟨ps,hx ps e2, ?_⟩
      rw[hmu,←hm]
      exact if_pos h
     ·have e:(Lend l 33 (.ok ps m'))=(m',true):=if_neg h
      rw[e]at aJ
      cases aJ
   subst hps
   have cj:=hid hmul
   clear hmu hm aJ hLP hmul
   by_cases h24:kd l m=24
   case neg=>
    have HMUL:=hid (show multi E l j= .bad m from cj.trans (if_neg h24))
    have ae:=hid h24
    clear h24
    have bq:=S5.c
    have bv:=aP.bk.c5
    have bt:=aE.bk.c2
    have bb:=ba.bk.c2
    go_wp2_with fail
    clear bq bv bt bb
    refine(take_no 24 _ S5.out HC.out HL.out (by decide) (by decide) (.inr ae.out)).mono ?_
    rintro e cG ⟨rfl,aj,D⟩
    have ai:=hid aj
    have ag:=hid (aP.go D)
    have af:=hid (aE.go D)
    have al:=hid (ba.go D)
    have bx:=hid (L5.go D)
    have bj:=hid (ca.trans D)
    clear aj D
    have bl:=ai.c
    have bs:=ag.bk.c5
    have bc:=af.bk.c2
    have bg:=al.bk.c2
    go_wp2_with fail
    clear bl bs bc bg
    refine(take_no 6 _ ai.out HC.out HL.out (by decide) (by decide) (.inl rfl)).mono ?_
    rintro e A ⟨rfl,aW,N⟩
    have aC:=hid aW
    have a8:=hid (ag.go N)
    have aM:=hid (af.go N)
    have aA:=hid (al.go N)
    have bH:=hid (bx.go N)
    have bG:=hid (bj.trans N)
    clear aW N
    have dr:=hid (show w.heap.size<A.heap.size from a8.bk.lt)
    have dt:=hid (show(w.heap.size+1)<A.heap.size from aM.bk.lt)
    have d1:=hid (show(w.heap.size+1+1)<A.heap.size from aA.bk.lt)
    obtain⟨U,K⟩:∃Wx,Wx=A.alloc (.cells #[.int .i64 0,.string ⟨#[]⟩,.int .i64 0] 86):=⟨_,rfl⟩
    have G:Below A.heap.size A U:=by rw[K];exact(Below.refl _ _).alloc (Nat.le_refl _) _
    have bE:=hid (show Mq w0.heap.size A.heap.size #[.int .i64 0,.string ⟨#[]⟩,.int .i64 0] 86 v5 U from Mq.of aC.out (by rw[K];exact Bk.new _ _ _) (Nat.le_refl _))
    have dy:=hid (show U.heap.size=A.heap.size+1 by rw[K];simp)
    have am:=hid (aC.keep G)
    have aB:=hid (a8.keep G)
    have ap:=hid (aM.keep G)
    have ak:=hid (aA.keep G)
    have bC:=hid (bH.keep G)
    have bU:=hid (bG.trans (Gr.quiet G))
    clear G
    have aR:=am.c
    have aF:=aB.bk.c5
    have a4:=ap.bk.c2
    have a2:=ak.bk.c2
    have aH:=bE.bk.c3
    rw[K]at aR aF a4 a2 aH
    go_wp2_with fail
    rw[←K]
    clear aR aF a4 a2 aH K
    refine(nd.make_all (nd0 13 0 ⟨#[]⟩) o a5 c5 _ bC.parts (Nat.le_trans K5.out.2.2 (by have:=HMB.out;have:=aK.out;omega)) (Nat.le_trans K5.out.1 (by decide)) (fun q hq t ht=>Nat.le_trans (K5.out.2.1 q hq t ht) (by decide))).mono ?_
    rintro e a6 ⟨T6,z6,r6,rfl,V,Z,b6,ah⟩
    obtain⟨aT,cT,eT⟩:=Z.form
    rw[show z6.length=(makeT (nd0 13 0 ⟨#[]⟩) o).length by rw[←V,List.length_map]]at eT
    subst eT
    have H6:=Tq.of am.out Z ah
    rw[V]at H6
    have HRB:=hid (show w.heap.size+1<U.heap.size from ap.bk.lt)
    have HXB:=hid (show w.heap.size+1+1<U.heap.size from ak.bk.lt)
    have aN:=hid (am.keep b6)
    have a9:=hid (aB.keep b6)
    have a3:=hid (ap.keep b6)
    have Q:=hid (ak.keep b6)
    have bN:=hid (bU.trans (Gr.quiet b6))
    have T6:=hid H6
    clear H6 V Z ah b6
    have bD:=aN.c
    have bB:=a9.bk.c5
    have bL:=a3.bk.c2
    have bo:=Q.bk.c2
    have bA:=Q.bk.f
    obtain⟨aa,C⟩:∃Wx,Wx=((a6.setCell ⟨(w.heap.size+1+1),0,none⟩ (.slice aT (makeT (nd0 13 0 ⟨#[]⟩) o).length cT)).setCell ⟨(w.heap.size+1+1),1,none⟩ (.bool false)):=⟨_,rfl⟩
    have aZ:=hid (by rw[C];exact((aN.out).mset Q.out 0 _).mset (Q.set 0 (.slice aT (makeT (nd0 13 0 ⟨#[]⟩) o).length cT)) 1 _:Sq w0 l a cap N0 s m true v5 aa)
    have ao:=hid ((a9.oth (k:=(w.heap.size+1+1)) (by have:=F.out;omega) 0 (.slice aT (makeT (nd0 13 0 ⟨#[]⟩) o).length cT)).oth (k:=(w.heap.size+1+1)) (by have:=F.out;omega) 1 (.bool false))
    rw[←C]at ao
    have an:=hid ((a3.oth (k:=(w.heap.size+1+1)) (by have:=F.out;omega) 0 (.slice aT (makeT (nd0 13 0 ⟨#[]⟩) o).length cT)).oth (k:=(w.heap.size+1+1)) (by have:=F.out;omega) 1 (.bool false))
    rw[←C]at an
    have aY:=hid (by rw[C];exact((Q.set 0 (.slice aT (makeT (nd0 13 0 ⟨#[]⟩) o).length cT)).set 1 (.bool false)):Mq w0.heap.size (w.heap.size+1+1) #[.slice aT (makeT (nd0 13 0 ⟨#[]⟩) o).length cT,.bool false] 95 v5 aa)
    have aO:=hid ((T6.low (g:=(w.heap.size+1+1)) (HXB.out) 0 (.slice aT (makeT (nd0 13 0 ⟨#[]⟩) o).length cT)).low (g:=(w.heap.size+1+1)) (HXB.out) 1 (.bool false))
    rw[←C]at aO
    have aQ:=hid ((bN.set (g:=(w.heap.size+1+1)) (.inr (by have:=F.out;omega)) 0 (.slice aT (makeT (nd0 13 0 ⟨#[]⟩) o).length cT)).set (g:=(w.heap.size+1+1)) (.inr (by have:=F.out;omega)) 1 (.bool false))
    rw[←C]at aQ
    have de:=hid (show aa.heap.size=a6.heap.size by rw[C];simp)
    have HMU:=hid (show multi E l j= .bad m from HMUL.out)
    rw[HMU.out]at HTM HMO
    have ay:=hid (show RelIn M w0 l a cap N0 s j E pl pd false pg psg T v w ((w.heap.size+1+1)) aa from⟨atQ (.bad m),bdQ (.bad m),v5,aT,cT,_,false,_,aZ.out,aQ.out,ao.out,an.out,aY.out,aO.out,HRB.out,way_start HTM.out ((wk_make K5.out.2.1 K5.out.1 (by have:=K5.out.2.2;have:=HJM.out;omega):Wk (2*(m-j)) _)) (HMO.out) (fun lv tg t m h=>multi_stuck (HMU.trans h))⟩)
    have aV:=aZ.c
    have aD:=ao.bk.c5
    have a7:=an.bk.c2
    have aX:=aY.bk.c2
    rw[C]at aV aD a7 aX
    go_wp2
    go_meet
    rw[←C]
    clear bD bB bL bo bA aV aD a7 aX C
    exact ay.out
   case pos=>
    have ae:=hid h24
    clear h24
    by_cases h6:kd l (m+1)=6
    case neg=>
     have HMUL:=hid (show multi E l j= .bad (m+1)from cj.trans ((if_pos ae.out).trans (if_neg h6)))
     have H6:=hid h6
     clear h6
     have bq:=S5.c
     have bv:=aP.bk.c5
     have bt:=aE.bk.c2
     have bb:=ba.bk.c2
     go_wp2_with fail
     clear bq bv bt bb
     refine(take_yes 24 _ S5.out HC.out HL.out (by decide) (by decide) ae.out).mono ?_
     rintro e cG ⟨rfl,aj,D⟩
     have ai:=hid aj
     have ag:=hid (aP.go D)
     have af:=hid (aE.go D)
     have al:=hid (ba.go D)
     have bx:=hid (L5.go D)
     have bj:=hid (ca.trans D)
     clear aj D
     have bl:=ai.c
     have bs:=ag.bk.c5
     have bc:=af.bk.c2
     have bg:=al.bk.c2
     go_wp2_with fail
     clear bl bs bc bg
     refine(take_no 6 _ ai.out HC.out HL.out (by decide) (by decide) (.inr H6.out)).mono ?_
     rintro e A ⟨rfl,aW,N⟩
     have aC:=hid aW
     have a8:=hid (ag.go N)
     have aM:=hid (af.go N)
     have aA:=hid (al.go N)
     have bH:=hid (bx.go N)
     have bG:=hid (bj.trans N)
     clear aW N
     have dr:=hid (show w.heap.size<A.heap.size from a8.bk.lt)
     have dt:=hid (show(w.heap.size+1)<A.heap.size from aM.bk.lt)
     have d1:=hid (show(w.heap.size+1+1)<A.heap.size from aA.bk.lt)
     obtain⟨U,K⟩:∃Wx,Wx=A.alloc (.cells #[.int .i64 0,.string ⟨#[]⟩,.int .i64 0] 86):=⟨_,rfl⟩
     have G:Below A.heap.size A U:=by rw[K];exact(Below.refl _ _).alloc (Nat.le_refl _) _
     have bE:=hid (show Mq w0.heap.size A.heap.size #[.int .i64 0,.string ⟨#[]⟩,.int .i64 0] 86 v5 U from Mq.of aC.out (by rw[K];exact Bk.new _ _ _) (Nat.le_refl _))
     have dy:=hid (show U.heap.size=A.heap.size+1 by rw[K];simp)
     have am:=hid (aC.keep G)
     have aB:=hid (a8.keep G)
     have ap:=hid (aM.keep G)
     have ak:=hid (aA.keep G)
     have bC:=hid (bH.keep G)
     have bU:=hid (bG.trans (Gr.quiet G))
     clear G
     have aR:=am.c
     have aF:=aB.bk.c5
     have a4:=ap.bk.c2
     have a2:=ak.bk.c2
     have aH:=bE.bk.c3
     rw[K]at aR aF a4 a2 aH
     go_wp2_with fail
     rw[←K]
     clear aR aF a4 a2 aH K
     refine(nd.make_all (nd0 13 0 ⟨#[]⟩) o a5 c5 _ bC.parts (Nat.le_trans K5.out.2.2 (by have:=HMB.out;have:=aK.out;omega)) (Nat.le_trans K5.out.1 (by decide)) (fun q hq t ht=>Nat.le_trans (K5.out.2.1 q hq t ht) (by decide))).mono ?_
     rintro e a6 ⟨T6,z6,r6,rfl,V,Z,b6,ah⟩
     obtain⟨aT,cT,eT⟩:=Z.form
     rw[show z6.length=(makeT (nd0 13 0 ⟨#[]⟩) o).length by rw[←V,List.length_map]]at eT
     subst eT
     have H6:=Tq.of am.out Z ah
     rw[V]at H6
     have HRB:=hid (show w.heap.size+1<U.heap.size from ap.bk.lt)
     have HXB:=hid (show w.heap.size+1+1<U.heap.size from ak.bk.lt)
     have aN:=hid (am.keep b6)
     have a9:=hid (aB.keep b6)
     have a3:=hid (ap.keep b6)
     have Q:=hid (ak.keep b6)
     have bN:=hid (bU.trans (Gr.quiet b6))
     have T6:=hid H6
     clear H6 V Z ah b6
     have bD:=aN.c
     have bB:=a9.bk.c5
     have bL:=a3.bk.c2
     have bo:=Q.bk.c2
     have bA:=Q.bk.f
     obtain⟨aa,C⟩:∃Wx,Wx=((a6.setCell ⟨(w.heap.size+1+1),0,none⟩ (.slice aT (makeT (nd0 13 0 ⟨#[]⟩) o).length cT)).setCell ⟨(w.heap.size+1+1),1,none⟩ (.bool false)):=⟨_,rfl⟩
     have aZ:=hid (by rw[C];exact((aN.out).mset Q.out 0 _).mset (Q.set 0 (.slice aT (makeT (nd0 13 0 ⟨#[]⟩) o).length cT)) 1 _:Sq w0 l a cap N0 s (m+1) true v5 aa)
     have ao:=hid ((a9.oth (k:=(w.heap.size+1+1)) (by have:=F.out;omega) 0 (.slice aT (makeT (nd0 13 0 ⟨#[]⟩) o).length cT)).oth (k:=(w.heap.size+1+1)) (by have:=F.out;omega) 1 (.bool false))
     rw[←C]at ao
     have an:=hid ((a3.oth (k:=(w.heap.size+1+1)) (by have:=F.out;omega) 0 (.slice aT (makeT (nd0 13 0 ⟨#[]⟩) o).length cT)).oth (k:=(w.heap.size+1+1)) (by have:=F.out;omega) 1 (.bool false))
     rw[←C]at an
     have aY:=hid (by rw[C];exact((Q.set 0 (.slice aT (makeT (nd0 13 0 ⟨#[]⟩) o).length cT)).set 1 (.bool false)):Mq w0.heap.size (w.heap.size+1+1) #[.slice aT (makeT (nd0 13 0 ⟨#[]⟩) o).length cT,.bool false] 95 v5 aa)
     have aO:=hid ((T6.low (g:=(w.heap.size+1+1)) (HXB.out) 0 (.slice aT (makeT (nd0 13 0 ⟨#[]⟩) o).length cT)).low (g:=(w.heap.size+1+1)) (HXB.out) 1 (.bool false))
     rw[←C]at aO
     have aQ:=hid ((bN.set (g:=(w.heap.size+1+1)) (.inr (by have:=F.out;omega)) 0 (.slice aT (makeT (nd0 13 0 ⟨#[]⟩) o).length cT)).set (g:=(w.heap.size+1+1)) (.inr (by have:=F.out;omega)) 1 (.bool false))
     rw[←C]at aQ
     have de:=hid (show aa.heap.size=a6.heap.size by rw[C];simp)
     have HMU:=hid (show multi E l j= .bad (m+1)from HMUL.out)
     rw[HMU.out]at HTM HMO
     have ay:=hid (show RelIn M w0 l a cap N0 s j E pl pd false pg psg T v w ((w.heap.size+1+1)) aa from⟨atQ (.bad (m+1)),bdQ (.bad (m+1)),v5,aT,cT,_,false,_,aZ.out,aQ.out,ao.out,an.out,aY.out,aO.out,HRB.out,way_start HTM.out ((wk_make K5.out.2.1 K5.out.1 (by have:=K5.out.2.2;have:=HJM.out;omega):Wk (2*(m+1-j)) _)) (HMO.out) (fun lv tg t m h=>multi_stuck (HMU.trans h))⟩)
     have aV:=aZ.c
     have aD:=ao.bk.c5
     have a7:=an.bk.c2
     have aX:=aY.bk.c2
     rw[C]at aV aD a7 aX
     go_wp2
     go_meet
     rw[←C]
     clear bD bB bL bo bA aV aD a7 aX C
     exact ay.out
    case pos=>
     have HMUL:=hid (show multi E l j=fin 13 0 (tx l (m+1)) o (m+2)from cj.trans ((if_pos ae.out).trans (if_pos h6)))
     obtain⟨x,hx⟩:∃x,tx l (m+1)=x:=⟨_,rfl⟩
     obtain⟨y,hy⟩:∃y,pr.ta l (m+1)=y:=⟨_,rfl⟩
     have HTY:=hid (fun v2 W2 (h2:Sq w0 l a cap N0 s (m+1) false v2 W2)=>take_yes 6 W2 h2 HC.out HL.out (by decide) (by decide) h6)
     rw[hx,hy]at HTY
     rw[hx]at HMUL
     clear h6 hx hy
     have bq:=S5.c
     have bv:=aP.bk.c5
     have bt:=aE.bk.c2
     have bb:=ba.bk.c2
     go_wp2_with fail
     clear bq bv bt bb
     refine(take_yes 24 _ S5.out HC.out HL.out (by decide) (by decide) ae.out).mono ?_
     rintro e cG ⟨rfl,aj,D⟩
     have ai:=hid aj
     have ag:=hid (aP.go D)
     have af:=hid (aE.go D)
     have al:=hid (ba.go D)
     have bx:=hid (L5.go D)
     have bj:=hid (ca.trans D)
     clear aj D
     have bl:=ai.c
     have bs:=ag.bk.c5
     have bc:=af.bk.c2
     have bg:=al.bk.c2
     go_wp2_with fail
     clear bl bs bc bg
     refine(HTY.out _ _ ai.out).mono ?_
     rintro e A ⟨rfl,s9,g9⟩
     have bR:=hid s9
     have dj:=hid (ag.go g9)
     have dV:=hid (af.go g9)
     have dM:=hid (al.go g9)
     have eF:=hid (bx.go g9)
     have ev:=hid (bj.trans g9)
     clear s9 g9
     have fi:=hid (show w.heap.size<A.heap.size from dj.bk.lt)
     have ff:=hid (show(w.heap.size+1)<A.heap.size from dV.bk.lt)
     have fb:=hid (show(w.heap.size+1+1)<A.heap.size from dM.bk.lt)
     obtain⟨bZ,b7⟩:∃Wx,Wx=A.alloc (.cells #[.int .i64 6,.string x,.int .i64 y] 86):=⟨_,rfl⟩
     have b0:Below A.heap.size A bZ:=by rw[b7];exact(Below.refl _ _).alloc (Nat.le_refl _) _
     have ec:=hid (show Mq w0.heap.size A.heap.size #[.int .i64 6,.string x,.int .i64 y] 86 v5 bZ from Mq.of bR.out (by rw[b7];exact Bk.new _ _ _) (Nat.le_refl _))
     have fk:=hid (show bZ.heap.size=A.heap.size+1 by rw[b7];simp)
     have cw:=hid (bR.keep b0)
     have dF:=hid (dj.keep b0)
     have ck:=hid (dV.keep b0)
     have cx:=hid (dM.keep b0)
     have eD:=hid (eF.keep b0)
     have en:=hid (ev.trans (Gr.quiet b0))
     clear b0
     have cU:=cw.c
     have cS:=dF.bk.c5
     have cH:=ck.bk.c2
     have dx:=cx.bk.c2
     have dN:=ec.bk.c3
     rw[b7]at cU cS cH dx dN
     go_wp2_with fail
     rw[←b7]
     clear cU cS cH dx dN b7
     refine(nd.make_all (nd0 13 0 x) o a5 c5 _ eD.parts (Nat.le_trans K5.out.2.2 (by have:=HMB.out;have:=aK.out;omega)) (Nat.le_trans K5.out.1 (by decide)) (fun q hq t ht=>Nat.le_trans (K5.out.2.1 q hq t ht) (by decide))).mono ?_
     rintro e dR ⟨T6,z6,r6,rfl,V,Z,b6,ah⟩
     obtain⟨aT,cT,eT⟩:=Z.form
     rw[show z6.length=(makeT (nd0 13 0 x) o).length by rw[←V,List.length_map]]at eT
     subst eT
     have H6:=Tq.of cw.out Z ah
     rw[V]at H6
     have HRB:=hid (show w.heap.size+1<bZ.heap.size from ck.bk.lt)
     have HXB:=hid (show w.heap.size+1+1<bZ.heap.size from cx.bk.lt)
     have b8:=hid (cw.keep b6)
     have bV:=hid (dF.keep b6)
     have bX:=hid (ck.keep b6)
     have ac:=hid (cx.keep b6)
     have eH:=hid (en.trans (Gr.quiet b6))
     have T6:=hid H6
     clear H6 V Z ah b6
     have ew:=b8.c
     have eE:=bV.bk.c5
     have ei:=bX.bk.c2
     have cD:=ac.bk.c2
     have dY:=ac.bk.f
     obtain⟨cc,ax⟩:∃Wx,Wx=((dR.setCell ⟨(w.heap.size+1+1),0,none⟩ (.slice aT (makeT (nd0 13 0 x) o).length cT)).setCell ⟨(w.heap.size+1+1),1,none⟩ (.bool false)):=⟨_,rfl⟩
     have d2:=hid (by rw[ax];exact((b8.out).mset ac.out 0 _).mset (ac.set 0 (.slice aT (makeT (nd0 13 0 x) o).length cT)) 1 _:Sq w0 l a cap N0 s (m+2) false v5 cc)
     have cA:=hid ((bV.oth (k:=(w.heap.size+1+1)) (by have:=F.out;omega) 0 (.slice aT (makeT (nd0 13 0 x) o).length cT)).oth (k:=(w.heap.size+1+1)) (by have:=F.out;omega) 1 (.bool false))
     rw[←ax]at cA
     have c4:=hid ((bX.oth (k:=(w.heap.size+1+1)) (by have:=F.out;omega) 0 (.slice aT (makeT (nd0 13 0 x) o).length cT)).oth (k:=(w.heap.size+1+1)) (by have:=F.out;omega) 1 (.bool false))
     rw[←ax]at c4
     have cO:=hid (by rw[ax];exact((ac.set 0 (.slice aT (makeT (nd0 13 0 x) o).length cT)).set 1 (.bool false)):Mq w0.heap.size (w.heap.size+1+1) #[.slice aT (makeT (nd0 13 0 x) o).length cT,.bool false] 95 v5 cc)
     have dJ:=hid ((T6.low (g:=(w.heap.size+1+1)) (HXB.out) 0 (.slice aT (makeT (nd0 13 0 x) o).length cT)).low (g:=(w.heap.size+1+1)) (HXB.out) 1 (.bool false))
     rw[←ax]at dJ
     have d8:=hid ((eH.set (g:=(w.heap.size+1+1)) (.inr (by have:=F.out;omega)) 0 (.slice aT (makeT (nd0 13 0 x) o).length cT)).set (g:=(w.heap.size+1+1)) (.inr (by have:=F.out;omega)) 1 (.bool false))
     rw[←ax]at d8
     have eW:=hid (show cc.heap.size=dR.heap.size by rw[ax];simp)
     have HMU:=hid (show multi E l j=(fin 13 0 x o (m+2))from HMUL.out)
     rw[HMU.out]at HTM HMO
     have ay:=hid (show RelIn M w0 l a cap N0 s j E pl pd false pg psg T v w ((w.heap.size+1+1)) cc from⟨atQ ((fin 13 0 x o (m+2))),bdQ ((fin 13 0 x o (m+2))),v5,aT,cT,_,false,_,d2.out,d8.out,cA.out,c4.out,cO.out,dJ.out,HRB.out,way_start HTM.out (⟨rfl,(put_make _ _ _ _).symm⟩) (HMO.out) (fun lv tg t m h=>multi_stuck (HMU.trans h))⟩)
     have cR:=d2.c
     have dE:=cA.bk.c5
     have du:=c4.bk.c2
     have dw:=cO.bk.c2
     rw[ax]at cR dE du dw
     go_wp2
     go_meet
     rw[←ax]
     clear ew eE ei cD dY cR dE du dw ax
     exact ay.out
 case rest=>
  have ay:=hid hcut
  have HGX:=hid F.out
  obtain⟨gX,hgX⟩:∃gX,gX=w.heap.size+1+1:=⟨_,rfl⟩
  rw[←hgX]at ay HGX⊢
  clear hgX hcut cg ch cb ce dv
  go_wp2
  go_loopw [8] (fun _ wr=>RelIn M w0 l a cap N0 s j E pl pd false pg psg T v w gX wr) (fun _ wr=>msr l.length w0.heap.size wr)
  case atStart=>exact ay.out
  case round=>
   obtain⟨m,bd,vr,aT,cT,tt,hh,B,hs,hg,hP,hR,hXB,hT,hBB,hway⟩:=hrel
   have Sr:=hid hs
   have Gr':=hid hg
   have Pr:=hid hP
   have Rr:=hid hR
   have XBr:=hid hXB
   have Xr:=hid hT
   have HBB:=hid hBB
   have HMS:=hid (msr_of hs)
   clear hs hg hP hR hXB hT hBB
   rcases hway with ⟨rfl,hTT,hwk⟩|⟨rfl,lv,tg,t',gf,hgt,hok,hTT,hgf,hst,hlv⟩
   ·
    have HTT:=hid hTT
    have HWK:=hid hwk
    clear hTT hwk
    have az:=Sr.c
    have a0:=Pr.bk.c5
    have a1:=Rr.bk.c2
    have bm:=Rr.bk.f
    have be:=XBr.bk.c2
    go_wp2
    clear az a0 a1 bm be
    obtain⟨e1,eh⟩:=(Rr.bk.put2 (.slice aT tt.length cT) (.bool hh)).c2
    exact bodyPost_ret (v:= .agg #[.slice aT tt.length cT,.bool hh]) (by simp[results,Tryz.results112,go_sem,e1,eh]) rfl (by rw[HTT.out];exact rq_end HLT.out (show Sq w0 l a cap N0 s m true _ _ from Sr.out) Gr'.out Rr.out Xr.out (by exact Nat.le_succ _) (by exact HBB.out) (HWK.out))
   ·
    have HGT:=hid hgt
    have HOK:=hid hok
    have HGF:=hid hgf
    have HTE:=hid hTT
    have hiso:=goes_5 hlv hst
    have HJL:=hid (show m≤l.length from hok.2.1)
    have HK:=hid (fun W2 (h2:Sq w0 l a cap N0 s m false vr W2)=>kind_any W2 h2 HC.out HL.out)
    by_cases h24:kd l m=24
    case neg=>
     have HTT:=hid (hTT.trans (go_stop (by rw[hiso];simp[h24]) (by omega)))
     obtain⟨c,hcc⟩:∃c,kd l m=c:=⟨_,rfl⟩
     rw[hcc]at HK h24
     obtain⟨q1,q2⟩:=ne_facts h24
     clear hiso hgt hok hgf hTT hst hlv h24 hcc
     have az:=Sr.c
     have a0:=Pr.bk.c5
     have a1:=Rr.bk.c2
     have bm:=Rr.bk.f
     have be:=XBr.bk.c2
     go_wp2_with fail
     clear az a0 a1 bm be
     refine(HK.out _ Sr.out).mono ?_
     rintro e dp ⟨rfl,J⟩
     have aI:=hid (Sr.keep J)
     have bp:=hid (Pr.keep J)
     have ad:=hid (Rr.keep J)
     have bu:=hid (XBr.keep J)
     have bM:=hid (Xr.keep J)
     have bO:=hid (Gr'.trans (Gr.quiet J))
     clear J
     have bP:=aI.c
     have bW:=bp.bk.c5
     have bf:=ad.bk.c2
     have bK:=ad.bk.f
     have bS:=bu.bk.c2
     go_wp2
     clear bP bW bf bK bS
     obtain⟨eP,ee⟩:=(ad.bk.put2 (.slice aT tt.length cT) (.bool hh)).c2
     exact bodyPost_ret (v:= .agg #[.slice aT tt.length cT,.bool hh]) (by simp[results,Tryz.results112,go_sem,eP,ee]) rfl (by rw[HTT.out];exact rq_end HLT.out (show Sq w0 l a cap N0 s m false _ _ from aI.out) bO.out ad.out bM.out (by exact Nat.le_succ _) (by exact HBB.out) (HGT.out))
    case pos=>
     have HGO:=hid (show goes (kd l m) lv tg (cp 5 false pg)=true by rw[hiso,h24];rfl)
     have ae:=hid h24
     have HML:=hid (kd_lt (l:=l) (i:=m) (by omega))
     have HWX:=hid (gt_wk1 hgt hok)
     rw[h24]at HK
     clear hiso hgt hok hgf hTT hst hlv h24
     by_cases h6:kd l (m+1)=6
     case pos=>
      have H6:=hid h6
      obtain⟨x,hx⟩:∃x,tx l (m+1)=x:=⟨_,rfl⟩
      obtain⟨y,hy⟩:∃y,pr.ta l (m+1)=y:=⟨_,rfl⟩
      have ek:=hid hx.symm
      have HTY:=hid (fun W2 (h2:Sq w0 l a cap N0 s (m+1) false vr W2)=>take_yes 6 W2 h2 HC.out HL.out (by decide) (by decide) h6)
      rw[hx,hy]at HTY
      clear h6 hx hy
      have az:=Sr.c
      have a0:=Pr.bk.c5
      have a1:=Rr.bk.c2
      have bm:=Rr.bk.f
      have be:=XBr.bk.c2
      go_wp2_with fail
      clear az a0 a1 bm be
      refine(HK.out _ Sr.out).mono ?_
      rintro e dp ⟨rfl,J⟩
      have aI:=hid (Sr.keep J)
      have bp:=hid (Pr.keep J)
      have ad:=hid (Rr.keep J)
      have bu:=hid (XBr.keep J)
      have bM:=hid (Xr.keep J)
      have bO:=hid (Gr'.trans (Gr.quiet J))
      clear J
      have bP:=aI.c
      have bW:=bp.bk.c5
      have bf:=ad.bk.c2
      have bK:=ad.bk.f
      have bS:=bu.bk.c2
      go_wp2_with fail
      clear bP bW bf bK bS
      refine(take_yes 24 _ aI.out HC.out HL.out (by decide) (by decide) ae.out).mono ?_
      rintro e e0 ⟨rfl,bT,ab⟩
      have bQ:=hid bT
      have bI:=hid (bp.go ab)
      have bi:=hid (ad.go ab)
      have bJ:=hid (bu.go ab)
      have cr:=hid (bM.go ab)
      have c1:=hid (bO.trans ab)
      clear bT ab
      have cq:=bQ.c
      have cz:=bI.bk.c5
      have cF:=bi.bk.c2
      have c9:=bi.bk.f
      have co:=bJ.bk.c2
      go_wp2_with fail
      clear cq cz cF c9 co
      refine(HTY.out _ bQ.out).mono ?_
      rintro e O ⟨rfl,s9,g9⟩
      have bR:=hid s9
      have dq:=hid (bI.go g9)
      have dA:=hid (bi.go g9)
      have dK:=hid (bJ.go g9)
      have eG:=hid (cr.go g9)
      have ef:=hid (c1.trans g9)
      clear s9 g9
      have eU:=hid (show w.heap.size<O.heap.size from dq.bk.lt)
      have eY:=hid (show(w.heap.size+1)<O.heap.size from dA.bk.lt)
      have fe:=hid (show gX<O.heap.size from dK.bk.lt)
      obtain⟨bw,b2⟩:∃Wx,Wx=O.alloc (.cells #[.int .i64 6,.string x,.int .i64 y] 86):=⟨_,rfl⟩
      have bz:Below O.heap.size O bw:=by rw[b2];exact(Below.refl _ _).alloc (Nat.le_refl _) _
      have dG:=hid (show Mq w0.heap.size O.heap.size #[.int .i64 6,.string x,.int .i64 y] 86 vr bw from Mq.of bR.out (by rw[b2];exact Bk.new _ _ _) (Nat.le_refl _))
      have eN:=hid (show bw.heap.size=O.heap.size+1 by rw[b2];simp)
      have cE:=hid (bR.keep bz)
      have d6:=hid (dq.keep bz)
      have dd:=hid (dA.keep bz)
      have cf:=hid (dK.keep bz)
      have dP:=hid (eG.keep bz)
      have e6:=hid (ef.trans (Gr.quiet bz))
      clear bz
      have dc:=cE.c
      have dB:=d6.bk.c5
      have cJ:=dd.bk.c2
      have dC:=cf.bk.c2
      have d7:=cf.bk.f
      have dI:=dG.bk.c3
      rw[b2]at dc dB cJ dC d7 dI
      go_wp2_with fail
      rw[←b2]
      clear dc dB cJ dC d7 dI b2
      have cZ:=dP.lies'
      refine(over1_any eN.out 13 0 x tt cZ (wk_mono HWX.out (by have:=aK.out;have:=HJL.out;omega))).mono ?_
      rintro e ct ⟨T,z,r,rfl,hz,hp,dS,hr⟩
      have u1410:=Tq.of (cE.alloc (.cells #[.slice aT tt.length cT] 26)) hp hr
      rw[hz]at u1410
      have eB:=hid (show(bw.alloc (.cells #[.slice aT tt.length cT] 26)).heap.size=bw.heap.size+1 by simp)
      rw[eB.out]at u1410
      have e4:=hid u1410
      have aL:Below bw.heap.size bw ct:=((Below.refl _ _).alloc (Nat.le_refl _) _).trans (dS.mono (by simp))
      have c0:=hid (cE.keep aL)
      have dT:=hid (d6.keep aL)
      have di:=hid (dd.keep aL)
      have bh:=hid (cf.keep aL)
      have ej:=hid (dG.keep aL)
      have fl:=hid (dP.keep aL)
      have es:=hid (e6.trans (Gr.quiet aL))
      obtain⟨aq,aw,rfl,-⟩:=u1410.lies
      clear u1410 hz hp hr dS aL cZ
      have HXL:=hid (show gX<_ from cf.bk.lt)
      have HRL:=hid (show w.heap.size+1<_ from Nat.lt_trans HGX.out HXL.out)
      have ea:=c0.c
      have eM:=dT.bk.c5
      have eg:=di.bk.c2
      have eJ:=bh.bk.c2
      have eS:=bh.bk.f
      have bo:=ej.bk.c3
      go_wp2
      clear ea eM eg eJ eS bo
      go_roundw
      case rel=>
       obtain⟨cm,aU⟩:∃Wx,Wx=((ct.setCell ⟨gX,0,none⟩ (.slice aq (makeT (nd0 13 0 x) [tt]).length aw)).setCell ⟨gX,1,none⟩ (.bool false)):=⟨_,rfl⟩
       have eQ:=hid (by rw[aU];exact((c0.out).mset bh.out 0 _).mset (bh.set 0 (.slice aq (makeT (nd0 13 0 x) [tt]).length aw)) 1 _:Sq w0 l a cap N0 s (m+2) false vr cm)
       have dg:=hid ((dT.oth (k:=gX) (by have:=HGX.out;omega) 0 (.slice aq (makeT (nd0 13 0 x) [tt]).length aw)).oth (k:=gX) (by have:=HGX.out;omega) 1 (.bool false))
       rw[←aU]at dg
       have cX:=hid ((di.oth (k:=gX) (by have:=HGX.out;omega) 0 (.slice aq (makeT (nd0 13 0 x) [tt]).length aw)).oth (k:=gX) (by have:=HGX.out;omega) 1 (.bool false))
       rw[←aU]at cX
       have dZ:=hid (by rw[aU];exact((bh.set 0 (.slice aq (makeT (nd0 13 0 x) [tt]).length aw)).set 1 (.bool false)):Mq w0.heap.size gX #[.slice aq (makeT (nd0 13 0 x) [tt]).length aw,.bool false] 95 vr cm)
       have dl:=hid ((e4.out.low (g:=gX) (Nat.lt_succ_of_lt HXL.out) 0 (.slice aq (makeT (nd0 13 0 x) [tt]).length aw)).low (g:=gX) (Nat.lt_succ_of_lt HXL.out) 1 (.bool false))
       rw[←aU]at dl
       have cM:=hid ((es.set (g:=gX) (.inr (by have:=HGX.out;omega)) 0 (.slice aq (makeT (nd0 13 0 x) [tt]).length aw)).set (g:=gX) (.inr (by have:=HGX.out;omega)) 1 (.bool false))
       rw[←aU]at cM
       have fc:=hid (show cm.heap.size=ct.heap.size by rw[aU];simp)
       rw[←aU]
       have hw:=way_in HM.out aK.out HGT.out HOK.out HTE.out HGF.out HGO.out ae.out x (fun _=>ek.out)
       rw[show innR l t' m=fin 13 0 (tx l (m+1)) [t'] (m+2)from if_pos H6.out]at hw
       exact⟨(m+2),false,vr,aq,aw,_,false,_,eQ.out,cM.out,dg.out,cX.out,dZ.out,dl.out,Nat.lt_succ_of_lt HRL.out,hw⟩
      case measure=>
       have cn:=(c0.mset bh.out 0 (.slice aq (makeT (nd0 13 0 x) [tt]).length aw)).mset (bh.set 0 _) 1 (.bool false)
       rw[msr_of cn,HMS.out]
       have:=HML.out
       have:=kd_lt (l:=l) (i:=m+1) (by have:=H6.out;omega)
       simp
       omega
     case neg=>
      have H6:=hid h6
      clear h6
      have az:=Sr.c
      have a0:=Pr.bk.c5
      have a1:=Rr.bk.c2
      have bm:=Rr.bk.f
      have be:=XBr.bk.c2
      go_wp2_with fail
      clear az a0 a1 bm be
      refine(HK.out _ Sr.out).mono ?_
      rintro e dp ⟨rfl,J⟩
      have aI:=hid (Sr.keep J)
      have bp:=hid (Pr.keep J)
      have ad:=hid (Rr.keep J)
      have bu:=hid (XBr.keep J)
      have bM:=hid (Xr.keep J)
      have bO:=hid (Gr'.trans (Gr.quiet J))
      clear J
      have bP:=aI.c
      have bW:=bp.bk.c5
      have bf:=ad.bk.c2
      have bK:=ad.bk.f
      have bS:=bu.bk.c2
      go_wp2_with fail
      clear bP bW bf bK bS
      refine(take_yes 24 _ aI.out HC.out HL.out (by decide) (by decide) ae.out).mono ?_
      rintro e e0 ⟨rfl,bT,ab⟩
      have bQ:=hid bT
      have bI:=hid (bp.go ab)
      have bi:=hid (ad.go ab)
      have bJ:=hid (bu.go ab)
      have cr:=hid (bM.go ab)
      have c1:=hid (bO.trans ab)
      clear bT ab
      have cq:=bQ.c
      have cz:=bI.bk.c5
      have cF:=bi.bk.c2
      have c9:=bi.bk.f
      have co:=bJ.bk.c2
      go_wp2_with fail
      clear cq cz cF c9 co
      refine(take_no 6 _ bQ.out HC.out HL.out (by decide) (by decide) (.inr H6.out)).mono ?_
      rintro e O ⟨rfl,cQ,b3⟩
      have dL:=hid cQ
      have dh:=hid (bI.go b3)
      have dH:=hid (bi.go b3)
      have db:=hid (bJ.go b3)
      have eR:=hid (cr.go b3)
      have e9:=hid (c1.trans b3)
      clear cQ b3
      have fh:=hid (show w.heap.size<O.heap.size from dh.bk.lt)
      have fj:=hid (show(w.heap.size+1)<O.heap.size from dH.bk.lt)
      have eZ:=hid (show gX<O.heap.size from db.bk.lt)
      obtain⟨bn,b4⟩:∃Wx,Wx=O.alloc (.cells #[.int .i64 0,.string ⟨#[]⟩,.int .i64 0] 86):=⟨_,rfl⟩
      have br:Below O.heap.size O bn:=by rw[b4];exact(Below.refl _ _).alloc (Nat.le_refl _) _
      have cV:=hid (show Mq w0.heap.size O.heap.size #[.int .i64 0,.string ⟨#[]⟩,.int .i64 0] 86 vr bn from Mq.of dL.out (by rw[b4];exact Bk.new _ _ _) (Nat.le_refl _))
      have eo:=hid (show bn.heap.size=O.heap.size+1 by rw[b4];simp)
      have ci:=hid (dL.keep br)
      have dQ:=hid (dh.keep br)
      have dk:=hid (dH.keep br)
      have cd:=hid (db.keep br)
      have dz:=hid (eR.keep br)
      have et:=hid (e9.trans (Gr.quiet br))
      clear br
      have cW:=ci.c
      have ds:=dQ.bk.c5
      have cY:=dk.bk.c2
      have dO:=cd.bk.c2
      have cL:=cd.bk.f
      have d0:=cV.bk.c3
      rw[b4]at cW ds cY dO cL d0
      go_wp2_with fail
      rw[←b4]
      clear cW ds cY dO cL d0 b4
      have d9:=dz.lies'
      refine(over1_any eo.out 13 0 ⟨#[]⟩ tt d9 (wk_mono HWX.out (by have:=aK.out;have:=HJL.out;omega))).mono ?_
      rintro e cl ⟨T,z,r,rfl,hz,hp,d3,hr⟩
      have u1440:=Tq.of (ci.alloc (.cells #[.slice aT tt.length cT] 26)) hp hr
      rw[hz]at u1440
      have eI:=hid (show(bn.alloc (.cells #[.slice aT tt.length cT] 26)).heap.size=bn.heap.size+1 by simp)
      rw[eI.out]at u1440
      have eC:=hid u1440
      have aS:Below bn.heap.size bn cl:=((Below.refl _ _).alloc (Nat.le_refl _) _).trans (d3.mono (by simp))
      have b8:=hid (ci.keep aS)
      have bV:=hid (dQ.keep aS)
      have bX:=hid (dk.keep aS)
      have ac:=hid (cd.keep aS)
      have e7:=hid (cV.keep aS)
      have fo:=hid (dz.keep aS)
      have ep:=hid (et.trans (Gr.quiet aS))
      obtain⟨ar,au,rfl,-⟩:=u1440.lies
      clear u1440 hz hp hr d3 aS d9
      have HXL:=hid (show gX<_ from cd.bk.lt)
      have HRL:=hid (show w.heap.size+1<_ from Nat.lt_trans HGX.out HXL.out)
      have eL:=b8.c
      have ed:=bV.bk.c5
      have cD:=bX.bk.c2
      have er:=ac.bk.c2
      have eO:=ac.bk.f
      have eb:=e7.bk.c3
      go_wp2
      clear eL ed cD er eO eb
      go_roundw
      case rel=>
       obtain⟨cB,aG⟩:∃Wx,Wx=((cl.setCell ⟨gX,0,none⟩ (.slice ar (makeT (nd0 13 0 ⟨#[]⟩) [tt]).length au)).setCell ⟨gX,1,none⟩ (.bool false)):=⟨_,rfl⟩
       have ey:=hid (by rw[aG];exact((b8.out).mset ac.out 0 _).mset (ac.set 0 (.slice ar (makeT (nd0 13 0 ⟨#[]⟩) [tt]).length au)) 1 _:Sq w0 l a cap N0 s (m+1) true vr cB)
       have da:=hid ((bV.oth (k:=gX) (by have:=HGX.out;omega) 0 (.slice ar (makeT (nd0 13 0 ⟨#[]⟩) [tt]).length au)).oth (k:=gX) (by have:=HGX.out;omega) 1 (.bool false))
       rw[←aG]at da
       have d5:=hid ((bX.oth (k:=gX) (by have:=HGX.out;omega) 0 (.slice ar (makeT (nd0 13 0 ⟨#[]⟩) [tt]).length au)).oth (k:=gX) (by have:=HGX.out;omega) 1 (.bool false))
       rw[←aG]at d5
       have eK:=hid (by rw[aG];exact((ac.set 0 (.slice ar (makeT (nd0 13 0 ⟨#[]⟩) [tt]).length au)).set 1 (.bool false)):Mq w0.heap.size gX #[.slice ar (makeT (nd0 13 0 ⟨#[]⟩) [tt]).length au,.bool false] 95 vr cB)
       have dW:=hid ((eC.out.low (g:=gX) (Nat.lt_succ_of_lt HXL.out) 0 (.slice ar (makeT (nd0 13 0 ⟨#[]⟩) [tt]).length au)).low (g:=gX) (Nat.lt_succ_of_lt HXL.out) 1 (.bool false))
       rw[←aG]at dW
       have dm:=hid ((ep.set (g:=gX) (.inr (by have:=HGX.out;omega)) 0 (.slice ar (makeT (nd0 13 0 ⟨#[]⟩) [tt]).length au)).set (g:=gX) (.inr (by have:=HGX.out;omega)) 1 (.bool false))
       rw[←aG]at dm
       have fg:=hid (show cB.heap.size=cl.heap.size by rw[aG];simp)
       rw[←aG]
       have hw:=way_in HM.out aK.out HGT.out HOK.out HTE.out HGF.out HGO.out ae.out ⟨#[]⟩ (fun h=>absurd h H6.out)
       rw[show innR l t' m= .bad (m+1)from if_neg H6.out]at hw
       exact⟨(m+1),true,vr,ar,au,_,false,_,ey.out,dm.out,da.out,d5.out,eK.out,dW.out,Nat.lt_succ_of_lt HRL.out,hw⟩
      case measure=>
       have cn:=(b8.mset ac.out 0 (.slice ar (makeT (nd0 13 0 ⟨#[]⟩) [tt]).length au)).mset (ac.set 0 _) 1 (.bool false)
       rw[msr_of cn,HMS.out]
       have:=HML.out
       skip
       simp
       try omega
end
end Go.Proofs.YtebjmdpkobhcbaaGreatDoor.qs
