/- A part. -/
import Derived.Test.YtebjmdpkobhcbaaGreatDoorRRr
import Derived.Test.YtebjmdpkobhcbaaGreatDoorRRs
import Derived.Deep.CutRange
import Derived.Deep.CutBlock
import Derived.Deep.DeepCutAuto
namespace Go.Proofs.YtebjmdpkobhcbaaGreatDoor.qs
open Lib (hid)
open Go.ChangeShapes Go.WideShapes Go.ChangeAt Go.RowKit
open tk (Tk)
open nd (Nd PT KidV makeT)
open ps (Ps posOk top)
open pe
open operand (begins)
open tksok (tokensOk)
open pr (Bk Gr X0 below_drewN eq_facts ne_facts fld_k fld_s lies_on below_put2 POut)
set_option linter.unusedVariables false
set_option linter.unusedSimpArgs false
set_option maxRecDepth 20000
set_option maxHeartbeats 6400000
theorem pout_drew{O:pe.Out}{w W:World}{e:Ending}(h:POut O w e W):POut O w e W.drew:=by
 obtain⟨v,z,r,he,hz,hp,hb⟩:=h
 exact⟨v,z,r,he,hz,pt_same hp (Nat.le_refl _) (fun _ _=>rfl) (fun _ _=>rfl),hb.drew⟩
theorem pout_lit{k a:Int}{w W:World}{e:Ending}{g b:Nat}{x y:Value}(he:e= .returned (.tuple #[.slice (some ⟨g,0,none⟩) 0 0,.int .i64 0,.agg #[.int .i64 k,.int .i64 a]]))(hL:Bk g #[] 33 W)(hg:w.heap.size<=g)(hne:g≠b)(hb:w.heap.size<=b)(hB:Below w.heap.size w W):POut ⟨[],0,k,a⟩ w e ((W.setCell ⟨b,0,none⟩ x).setCell ⟨b,1,none⟩ y):=
 ⟨.slice (some ⟨g,0,none⟩) 0 0,[],fun i=>i,he,rfl,pt_bk ((hL.oth hne 0 x).oth hne 1 y) hg,below_put2 hB hb _ _⟩
theorem parse_pos(l:List Tk)(a:Option Addr)(cap:Nat)(p:Ps)(w:World)(hc:tk.Lies w.heap.size w a l)(hl:l.length<=1048576)(hm:∀t∈l,t.s.size<=1048576)(h:posOk p.l p.d=false):
  Calls Tryz.prog 24 #[.slice a l.length cap,.agg #[.int .i64 p.l,.bool p.d,.bool p.i,.bool p.g,.bool p.s]] w (POut (parse l p) w):=by
 rw[show parse l p=⟨[],0,3,0⟩from by unfold parse;rw[h];rfl]
 obtain⟨L,d,i,gt,s⟩:=p
 obtain⟨W,hW⟩:∃W,W=(w.alloc (.cells #[.int .i64 L,.bool d,.bool i,.bool gt,.bool s] 44)).alloc (.cells #[.int .i64 0,.int .i64 0] 28):=⟨_,rfl⟩
 have hB:Below w.heap.size w W:=by rw[hW];exact((Below.refl _ _).alloc (Nat.le_refl _) _).alloc (by simp) _
 have P0:=hid (show Bk w.heap.size #[.int .i64 L,.bool d,.bool i,.bool gt,.bool s] 44 W by rw[hW];exact(Bk.new _ _ _).alloc _)
 have R0:=hid (show Bk (w.heap.size+1) #[.int .i64 0,.int .i64 0] 28 W by
  rw[hW]
  have:=Bk.new (w.alloc (.cells #[.int .i64 L,.bool d,.bool i,.bool gt,.bool s] 44)) #[.int .i64 0,.int .i64 0] 28
  simpa using this)
 have B0:=hid hB
 have HC:=hid hc
 have HL:=hid hl
 have HM:=hid hm
 have p0:=P0.c5
 rw[hW]at p0
 have HPO:=hid (fun W2=>_root_.Go.Proofs.YtebjmdpkobhcbaaGreatDoor.ps.spec_ok L d i gt s W2)
 have HTO:=hid (fun W2 (o:tk.Lies W2.heap.size W2 a l)=>tksok.spec_toksOk l a cap W2 hl o hm)
 have HNE:=hid (fun W2 (o:tk.Lies W2.heap.size W2 a l)=>pb.spec_nestOf l a cap W2 hl o)
 have HFA:=hid (fun j k W2 (o:tk.Lies W2.heap.size W2 a l) hj=>fault_any l a cap j k W2 o hl hj hm)
 have hnr:=pb.nestOf_range l
 obtain⟨NV,hNV⟩:∃NV,pb.nestOf l=NV:=⟨_,rfl⟩
 rw[hNV]at HNE hnr
 clear hB hc hm
 simp only at*
 rw[h]at HPO
 clear h hnr hNV hl
 go_enter Tryz.func24,Tryz.ntmps24
 go_wp2_with fail
 rw[<-hW]
 clear hW p0
 refine(HPO.out _).mono ?_
 rintro e w1 ⟨rfl,b1⟩
 have P1:=hid (P0.keep b1)
 have R1:=hid (R0.keep b1)
 have B1:=hid (B0.trans (b1.mono B0.size))
 clear b1
 obtain⟨WL,hWL⟩:∃WL,WL=w1.alloc (.cells #[] 33):=⟨_,rfl⟩
 have RL:=hid (show Bk (w.heap.size+1) #[.int .i64 0,.int .i64 0] 28 WL by rw[hWL];exact R1.alloc _)
 have LL:=hid (show Bk w1.heap.size #[] 33 WL by rw[hWL];exact Bk.new _ _ _)
 have BL:=hid (show Below w.heap.size w WL by rw[hWL];exact B1.alloc B1.size _)
 have HLE:=hid (show w.heap.size+1<w1.heap.size from R1.lt)
 have r0:=RL.c2
 have g0:=RL.f
 rw[hWL]at r0 g0
 go_wp2
 rw[<-hWL]
 clear hWL r0 g0
 obtain⟨t0,t1⟩:=(RL.put2 (.int .i64 3) (.int .i64 0)).c2
 exact bodyPost_ret (v:= .tuple #[.slice (some ⟨w1.heap.size,0,none⟩) 0 0,.int .i64 0,.agg #[.int .i64 3,.int .i64 0]]) (by simp[results,Tryz.results24,go_sem,t0,t1]) rfl (by exact pout_lit rfl LL.out (by have:=HLE.out;omega) (by have:=HLE.out;omega) (Nat.le_succ _) BL.out)
theorem parse_toks(l:List Tk)(a:Option Addr)(cap:Nat)(p:Ps)(w:World)(hc:tk.Lies w.heap.size w a l)(hl:l.length<=1048576)(hm:∀t∈l,t.s.size<=1048576)(h:posOk p.l p.d=true)(h2:tokensOk l=false):
  Calls Tryz.prog 24 #[.slice a l.length cap,.agg #[.int .i64 p.l,.bool p.d,.bool p.i,.bool p.g,.bool p.s]] w (POut (parse l p) w):=by
 rw[show parse l p=⟨[],0,2,0⟩from by unfold parse tf;rw[h,h2];rfl]
 obtain⟨L,d,i,gt,s⟩:=p
 obtain⟨W,hW⟩:∃W,W=(w.alloc (.cells #[.int .i64 L,.bool d,.bool i,.bool gt,.bool s] 44)).alloc (.cells #[.int .i64 0,.int .i64 0] 28):=⟨_,rfl⟩
 have hB:Below w.heap.size w W:=by rw[hW];exact((Below.refl _ _).alloc (Nat.le_refl _) _).alloc (by simp) _
 have P0:=hid (show Bk w.heap.size #[.int .i64 L,.bool d,.bool i,.bool gt,.bool s] 44 W by rw[hW];exact(Bk.new _ _ _).alloc _)
 have R0:=hid (show Bk (w.heap.size+1) #[.int .i64 0,.int .i64 0] 28 W by
  rw[hW]
  have:=Bk.new (w.alloc (.cells #[.int .i64 L,.bool d,.bool i,.bool gt,.bool s] 44)) #[.int .i64 0,.int .i64 0] 28
  simpa using this)
 have B0:=hid hB
 have HC:=hid hc
 have HL:=hid hl
 have HM:=hid hm
 have p0:=P0.c5
 rw[hW]at p0
 have HPO:=hid (fun W2=>_root_.Go.Proofs.YtebjmdpkobhcbaaGreatDoor.ps.spec_ok L d i gt s W2)
 have HTO:=hid (fun W2 (o:tk.Lies W2.heap.size W2 a l)=>tksok.spec_toksOk l a cap W2 hl o hm)
 have HNE:=hid (fun W2 (o:tk.Lies W2.heap.size W2 a l)=>pb.spec_nestOf l a cap W2 hl o)
 have HFA:=hid (fun j k W2 (o:tk.Lies W2.heap.size W2 a l) hj=>fault_any l a cap j k W2 o hl hj hm)
 have hnr:=pb.nestOf_range l
 obtain⟨NV,hNV⟩:∃NV,pb.nestOf l=NV:=⟨_,rfl⟩
 rw[hNV]at HNE hnr
 clear hB hc hm
 simp only at*
 rw[h]at HPO
 rw[h2]at HTO
 clear h h2 hnr hNV hl
 go_enter Tryz.func24,Tryz.ntmps24
 go_wp2_with fail
 rw[<-hW]
 clear hW p0
 refine(HPO.out _).mono ?_
 rintro e w1 ⟨rfl,b1⟩
 have P1:=hid (P0.keep b1)
 have R1:=hid (R0.keep b1)
 have B1:=hid (B0.trans (b1.mono B0.size))
 clear b1
 go_wp2_with fail
 refine(HTO.out _ (lies_on HC.out B1.out)).mono ?_
 rintro e w2 ⟨rfl,b2⟩
 have P2:=hid (P1.keep b2)
 have R2:=hid (R1.keep b2)
 have B2:=hid (B1.trans (b2.mono B1.size))
 clear b2
 obtain⟨WL,hWL⟩:∃WL,WL=w2.alloc (.cells #[] 33):=⟨_,rfl⟩
 have RL:=hid (show Bk (w.heap.size+1) #[.int .i64 0,.int .i64 0] 28 WL by rw[hWL];exact R2.alloc _)
 have LL:=hid (show Bk w2.heap.size #[] 33 WL by rw[hWL];exact Bk.new _ _ _)
 have BL:=hid (show Below w.heap.size w WL by rw[hWL];exact B2.alloc B2.size _)
 have HLE:=hid (show w.heap.size+1<w2.heap.size from R2.lt)
 have r0:=RL.c2
 have g0:=RL.f
 rw[hWL]at r0 g0
 go_wp2
 rw[<-hWL]
 clear hWL r0 g0
 obtain⟨t0,t1⟩:=(RL.put2 (.int .i64 2) (.int .i64 0)).c2
 exact bodyPost_ret (v:= .tuple #[.slice (some ⟨w2.heap.size,0,none⟩) 0 0,.int .i64 0,.agg #[.int .i64 2,.int .i64 0]]) (by simp[results,Tryz.results24,go_sem,t0,t1]) rfl (by exact pout_lit rfl LL.out (by have:=HLE.out;omega) (by have:=HLE.out;omega) (Nat.le_succ _) BL.out)
theorem parse_nest(l:List Tk)(a:Option Addr)(cap:Nat)(p:Ps)(w:World)(hc:tk.Lies w.heap.size w a l)(hl:l.length<=1048576)(hm:∀t∈l,t.s.size<=1048576)(h:posOk p.l p.d=true)(h2:tokensOk l=true)(h3:0<=pb.nestOf l):
  Calls Tryz.prog 24 #[.slice a l.length cap,.agg #[.int .i64 p.l,.bool p.d,.bool p.i,.bool p.g,.bool p.s]] w (POut (parse l p) w):=by
 rw[show parse l p=⟨[],0,4,place l (pb.nestOf l).toNat⟩from by unfold parse tf;rw[h,h2,if_pos rfl,if_pos rfl,if_pos h3];rfl]
 obtain⟨L,d,i,gt,s⟩:=p
 obtain⟨W,hW⟩:∃W,W=(w.alloc (.cells #[.int .i64 L,.bool d,.bool i,.bool gt,.bool s] 44)).alloc (.cells #[.int .i64 0,.int .i64 0] 28):=⟨_,rfl⟩
 have hB:Below w.heap.size w W:=by rw[hW];exact((Below.refl _ _).alloc (Nat.le_refl _) _).alloc (by simp) _
 have P0:=hid (show Bk w.heap.size #[.int .i64 L,.bool d,.bool i,.bool gt,.bool s] 44 W by rw[hW];exact(Bk.new _ _ _).alloc _)
 have R0:=hid (show Bk (w.heap.size+1) #[.int .i64 0,.int .i64 0] 28 W by
  rw[hW]
  have:=Bk.new (w.alloc (.cells #[.int .i64 L,.bool d,.bool i,.bool gt,.bool s] 44)) #[.int .i64 0,.int .i64 0] 28
  simpa using this)
 have B0:=hid hB
 have HC:=hid hc
 have HL:=hid hl
 have HM:=hid hm
 have p0:=P0.c5
 rw[hW]at p0
 have HPO:=hid (fun W2=>_root_.Go.Proofs.YtebjmdpkobhcbaaGreatDoor.ps.spec_ok L d i gt s W2)
 have HTO:=hid (fun W2 (o:tk.Lies W2.heap.size W2 a l)=>tksok.spec_toksOk l a cap W2 hl o hm)
 have HNE:=hid (fun W2 (o:tk.Lies W2.heap.size W2 a l)=>pb.spec_nestOf l a cap W2 hl o)
 have HFA:=hid (fun j k W2 (o:tk.Lies W2.heap.size W2 a l) hj=>fault_any l a cap j k W2 o hl hj hm)
 have hnr:=pb.nestOf_range l
 obtain⟨NV,hNV⟩:∃NV,pb.nestOf l=NV:=⟨_,rfl⟩
 rw[hNV]at HNE hnr
 clear hB hc hm
 simp only at*
 rw[hNV]at h3|-
 obtain⟨K,rfl⟩:∃K:Nat,NV=(K:Int):=⟨NV.toNat,by omega⟩
 have HK:=hid (show K<=l.length by omega)
 rw[show((K:Int)).toNat=K from rfl]
 obtain⟨PV,hPV⟩:∃PV,place l K=PV:=⟨_,rfl⟩
 have HPV:=hid hPV
 rw[hPV]
 rw[h]at HPO
 rw[h2]at HTO
 clear h h2 hnr hNV hl hPV
 go_enter Tryz.func24,Tryz.ntmps24
 go_wp2_with fail
 rw[<-hW]
 clear hW p0
 refine(HPO.out _).mono ?_
 rintro e w1 ⟨rfl,b1⟩
 have P1:=hid (P0.keep b1)
 have R1:=hid (R0.keep b1)
 have B1:=hid (B0.trans (b1.mono B0.size))
 clear b1
 go_wp2_with fail
 refine(HTO.out _ (lies_on HC.out B1.out)).mono ?_
 rintro e w2 ⟨rfl,b2⟩
 have P2:=hid (P1.keep b2)
 have R2:=hid (R1.keep b2)
 have B2:=hid (B1.trans (b2.mono B1.size))
 clear b2
 go_wp2_with fail
 refine(HNE.out _ (lies_on HC.out B2.out)).mono ?_
 rintro e w3 ⟨rfl,b3⟩
 have P3:=hid (P2.keep b3)
 have R3:=hid (R2.keep b3)
 have B3:=hid (B2.trans (b3.mono B2.size))
 clear b3
 obtain⟨WL,hWL⟩:∃WL,WL=w3.alloc (.cells #[] 33):=⟨_,rfl⟩
 have RL:=hid (show Bk (w.heap.size+1) #[.int .i64 0,.int .i64 0] 28 WL by rw[hWL];exact R3.alloc _)
 have LL:=hid (show Bk w3.heap.size #[] 33 WL by rw[hWL];exact Bk.new _ _ _)
 have BL:=hid (show Below w.heap.size w WL by rw[hWL];exact B3.alloc B3.size _)
 have HLE:=hid (show w.heap.size+1<w3.heap.size from R3.lt)
 go_wp2_with fail
 rw[<-hWL]
 clear hWL
 refine(HFA.out K 4 _ (lies_on HC.out BL.out) HK.out).mono ?_
 rw[HPV.out]
 rintro e w5 ⟨rfl,b5⟩
 have R5:=hid (RL.keep b5)
 have L5:=hid (LL.keep b5)
 have B5:=hid (BL.trans (b5.mono BL.size))
 clear b5
 have r0:=R5.c2
 have g0:=R5.f
 go_wp2
 clear r0 g0
 obtain⟨t0,t1⟩:=(R5.put2 (.int .i64 4) (.int .i64 PV)).c2
 exact bodyPost_ret (v:= .tuple #[.slice (some ⟨w3.heap.size,0,none⟩) 0 0,.int .i64 0,.agg #[.int .i64 4,.int .i64 PV]]) (by simp[results,Tryz.results24,go_sem,t0,t1]) rfl (by exact pout_lit rfl L5.out (by have:=HLE.out;omega) (by have:=HLE.out;omega) (Nat.le_succ _) B5.out)
theorem parse_sign(l:List Tk)(a:Option Addr)(cap:Nat)(p:Ps)(w:World)(hc:tk.Lies w.heap.size w a l)(hl:l.length<=1048576)(hm:∀t∈l,t.s.size<=1048576)(h:posOk p.l p.d=true)(h2:tokensOk l=true)(h3:¬0<=pb.nestOf l)(h4:(p.s&& !begins (kd l 0))=true):
  Calls Tryz.prog 24 #[.slice a l.length cap,.agg #[.int .i64 p.l,.bool p.d,.bool p.i,.bool p.g,.bool p.s]] w (POut (parse l p) w):=by
 have h5:p.s=true/\begins (kd l 0)=false:=by simpa using h4
 rw[show parse l p=⟨[],0,3,place l 0⟩from by unfold parse tf;rw[h,h2,if_pos rfl,if_pos rfl,if_neg h3,if_pos rfl,ex_top h];unfold exT;rw[if_pos h4];rfl]
 clear h4
 obtain⟨L,d,i,gt,s⟩:=p
 obtain⟨W,hW⟩:∃W,W=(w.alloc (.cells #[.int .i64 L,.bool d,.bool i,.bool gt,.bool s] 44)).alloc (.cells #[.int .i64 0,.int .i64 0] 28):=⟨_,rfl⟩
 have hB:Below w.heap.size w W:=by rw[hW];exact((Below.refl _ _).alloc (Nat.le_refl _) _).alloc (by simp) _
 have P0:=hid (show Bk w.heap.size #[.int .i64 L,.bool d,.bool i,.bool gt,.bool s] 44 W by rw[hW];exact(Bk.new _ _ _).alloc _)
 have R0:=hid (show Bk (w.heap.size+1) #[.int .i64 0,.int .i64 0] 28 W by
  rw[hW]
  have:=Bk.new (w.alloc (.cells #[.int .i64 L,.bool d,.bool i,.bool gt,.bool s] 44)) #[.int .i64 0,.int .i64 0] 28
  simpa using this)
 have B0:=hid hB
 have HC:=hid hc
 have HL:=hid hl
 have HM:=hid hm
 have p0:=P0.c5
 rw[hW]at p0
 have HPO:=hid (fun W2=>_root_.Go.Proofs.YtebjmdpkobhcbaaGreatDoor.ps.spec_ok L d i gt s W2)
 have HTO:=hid (fun W2 (y:tk.Lies W2.heap.size W2 a l)=>tksok.spec_toksOk l a cap W2 hl y hm)
 have HNE:=hid (fun W2 (y:tk.Lies W2.heap.size W2 a l)=>pb.spec_nestOf l a cap W2 hl y)
 have HFA:=hid (fun j k W2 (y:tk.Lies W2.heap.size W2 a l) hj=>fault_any l a cap j k W2 y hl hj hm)
 have hnr:=pb.nestOf_range l
 obtain⟨NV,hNV⟩:∃NV,pb.nestOf l=NV:=⟨_,rfl⟩
 rw[hNV]at HNE hnr
 clear hB hc hm
 simp only at*
 obtain⟨rfl,h5⟩:=h5
 rw[hNV]at h3
 obtain⟨PV,hPV⟩:∃PV,place l 0=PV:=⟨_,rfl⟩
 have HPV:=hid hPV
 rw[hPV]
 rw[h]at HPO
 rw[h2]at HTO
 clear h h2 hnr hNV hPV
 by_cases hn:l.length=0
 ·have q1:(l.length:Int)=0:=by omega
  have q2:((l.length:Int)==0)=true:=by rw[q1];rfl
  obtain⟨N,hN⟩:∃N,l.length=N:=⟨_,rfl⟩
  rw[hN]at q1 q2 hl HTO HNE HFA|-
  clear hn hN
  go_enter Tryz.func24,Tryz.ntmps24
  go_wp2_with fail
  rw[<-hW]
  clear hW p0
  refine(HPO.out _).mono ?_
  rintro e w1 ⟨rfl,b1⟩
  have P1:=hid (P0.keep b1)
  have R1:=hid (R0.keep b1)
  have B1:=hid (B0.trans (b1.mono B0.size))
  clear b1
  go_wp2_with fail
  refine(HTO.out _ (lies_on HC.out B1.out)).mono ?_
  rintro e w2 ⟨rfl,b2⟩
  have P2:=hid (P1.keep b2)
  have R2:=hid (R1.keep b2)
  have B2:=hid (B1.trans (b2.mono B1.size))
  clear b2
  go_wp2_with fail
  refine(HNE.out _ (lies_on HC.out B2.out)).mono ?_
  rintro e w3 ⟨rfl,b3⟩
  have P3:=hid (P2.keep b3)
  have R3:=hid (R2.keep b3)
  have B3:=hid (B2.trans (b3.mono B2.size))
  clear b3
  have p0:=P3.c5
  obtain⟨WL,hWL⟩:∃WL,WL=w3.alloc (.cells #[] 33):=⟨_,rfl⟩
  have RL:=hid (show Bk (w.heap.size+1) #[.int .i64 0,.int .i64 0] 28 WL by rw[hWL];exact R3.alloc _)
  have LL:=hid (show Bk w3.heap.size #[] 33 WL by rw[hWL];exact Bk.new _ _ _)
  have BL:=hid (show Below w.heap.size w WL by rw[hWL];exact B3.alloc B3.size _)
  have HLE:=hid (show w.heap.size+1<w3.heap.size from R3.lt)
  go_wp2_with fail
  rw[<-hWL]
  clear hWL p0
  refine(HFA.out 0 3 _ (lies_on HC.out BL.out) (Nat.zero_le _)).mono ?_
  rw[HPV.out]
  rintro e w5 ⟨rfl,b5⟩
  have R5:=hid (RL.keep b5)
  have L5:=hid (LL.keep b5)
  have B5:=hid (BL.trans (b5.mono BL.size))
  clear b5
  have r0:=R5.c2
  have g0:=R5.f
  go_wp2
  clear r0 g0
  obtain⟨t0,t1⟩:=(R5.put2 (.int .i64 3) (.int .i64 PV)).c2
  exact bodyPost_ret (v:= .tuple #[.slice (some ⟨w3.heap.size,0,none⟩) 0 0,.int .i64 0,.agg #[.int .i64 3,.int .i64 PV]]) (by simp[results,Tryz.results24,go_sem,t0,t1]) rfl (by exact pout_lit rfl L5.out (by have:=HLE.out;omega) (by have:=HLE.out;omega) (Nat.le_succ _) B5.out)
 ·have q1:¬(l.length:Int)=0:=by omega
  have q2:((l.length:Int)==0)=false:=by rw[beq_eq_false_iff_ne];exact q1
  have q3:(0:Int)<(l.length:Int):=by omega
  obtain⟨b,o,rfl,-,-,-⟩:=pr.tok_cells HC.out (Below.refl _ _) (show 0<l.length by omega)
  have A:=hid (show 0<l.length by omega)
  have H5:=hid h5
  clear h5
  obtain⟨N,hN⟩:∃N,l.length=N:=⟨_,rfl⟩
  rw[hN]at q1 q2 hl HTO HNE HFA q3|-
  clear hn hN
  go_enter Tryz.func24,Tryz.ntmps24
  go_wp2_with fail
  rw[<-hW]
  clear hW p0
  refine(HPO.out _).mono ?_
  rintro e w1 ⟨rfl,b1⟩
  have P1:=hid (P0.keep b1)
  have R1:=hid (R0.keep b1)
  have B1:=hid (B0.trans (b1.mono B0.size))
  clear b1
  go_wp2_with fail
  refine(HTO.out _ (lies_on HC.out B1.out)).mono ?_
  rintro e w2 ⟨rfl,b2⟩
  have P2:=hid (P1.keep b2)
  have R2:=hid (R1.keep b2)
  have B2:=hid (B1.trans (b2.mono B1.size))
  clear b2
  go_wp2_with fail
  refine(HNE.out _ (lies_on HC.out B2.out)).mono ?_
  rintro e w3 ⟨rfl,b3⟩
  have P3:=hid (P2.keep b3)
  have R3:=hid (R2.keep b3)
  have B3:=hid (B2.trans (b3.mono B2.size))
  clear b3
  have p0:=P3.c5
  obtain⟨b',o',e',d0,-,-⟩:=pr.tok_cells HC.out B3.out A.out
  obtain⟨rfl,rfl⟩:b=b'/\o=o':=by simpa using e'
  clear e'
  rw[Nat.zero_mul,Nat.add_zero]at d0
  obtain⟨k,hk⟩:∃k,kd l 0=k:=⟨_,rfl⟩
  have HKK:=hid hk
  rw[hk]at d0
  clear hk
  go_wp2_with fail
  refine(_root_.Go.Proofs.YtebjmdpkobhcbaaGreatDoor.operand.spec_begins _ _).mono ?_
  rw[<-HKK.out,H5.out]
  rintro e w4 ⟨rfl,rfl⟩
  obtain⟨WL,hWL⟩:∃WL,WL=w3.alloc (.cells #[] 33):=⟨_,rfl⟩
  have RL:=hid (show Bk (w.heap.size+1) #[.int .i64 0,.int .i64 0] 28 WL by rw[hWL];exact R3.alloc _)
  have LL:=hid (show Bk w3.heap.size #[] 33 WL by rw[hWL];exact Bk.new _ _ _)
  have BL:=hid (show Below w.heap.size w WL by rw[hWL];exact B3.alloc B3.size _)
  have HLE:=hid (show w.heap.size+1<w3.heap.size from R3.lt)
  go_wp2_with fail
  rw[<-hWL]
  clear hWL p0 d0
  refine(HFA.out 0 3 _ (lies_on HC.out BL.out) (Nat.zero_le _)).mono ?_
  rw[HPV.out]
  rintro e w5 ⟨rfl,b5⟩
  have R5:=hid (RL.keep b5)
  have L5:=hid (LL.keep b5)
  have B5:=hid (BL.trans (b5.mono BL.size))
  clear b5
  have r0:=R5.c2
  have g0:=R5.f
  go_wp2
  clear r0 g0
  obtain⟨t0,t1⟩:=(R5.put2 (.int .i64 3) (.int .i64 PV)).c2
  exact bodyPost_ret (v:= .tuple #[.slice (some ⟨w3.heap.size,0,none⟩) 0 0,.int .i64 0,.agg #[.int .i64 3,.int .i64 PV]]) (by simp[results,Tryz.results24,go_sem,t0,t1]) rfl (by exact pout_lit rfl L5.out (by have:=HLE.out;omega) (by have:=HLE.out;omega) (Nat.le_succ _) B5.out)
theorem callS_one{w0:World}{l:List Tk}{a:Option Addr}{cap M:Nat}(hc:tk.Lies w0.heap.size w0 a l)(hl3:l.length<=3000)(hM:∀t∈l,t.s.size<=M)(h99:∀m,¬kd l m=99):CallS w0 l a cap [] 0 (ex l l.length) (0+1):=by
 by_cases h:l.length<0+1
 ·intro L i g bd j v w _ _ h3 hst
  have:=hst.jn
  omega
 ·exact at_all (M:=M) hc hl3 hM h99 (by simp;omega) _ _ _ (Nat.le_refl _) (by omega)
theorem nd_low{B0 B g k1 k2:Nat}{aT:Option Addr}{cT:Nat}{t:List Nd}{v u1 u2:Value}{w:World}(h:nd.Lies w.heap.size w aT t)(hT:Tq B0 B (.slice aT t.length cT) t v w)(hg:g<B):nd.Lies ((w.setCell ⟨g,k1,none⟩ u1).setCell ⟨g,k2,none⟩ u2).heap.size ((w.setCell ⟨g,k1,none⟩ u1).setCell ⟨g,k2,none⟩ u2) aT t:=by
 obtain⟨aT',cT',e,h2⟩:=((hT.low hg k1 u1).low hg k2 u2).lies
 injection e with e1 e2 e3
 subst e1
 exact h2
def RelE(w w3:World)(l:List Tk)(a:Option Addr)(cap:Nat)(R:R)(wx:World):Prop:=
 ∃(t:List Nd) (h:Bool) (v7:Value) (aT:Option Addr) (cT B:Nat),Sq w3 l a cap [] 0 (atQ R) (bdQ R) v7 wx/\Bk (w3.heap.size+1) #[.slice aT t.length cT,.bool h] 95 wx/\Tq w3.heap.size B (.slice aT t.length cT) t v7 wx/\Bk (w.heap.size+1) #[.int .i64 0,.int .i64 0] 28 wx/\Below w.heap.size w wx/\GtR 0 t h R/\w3.heap.size+1<B/\nd.Lies wx.heap.size wx aT t
theorem parse_any0(l:List Tk)(a:Option Addr)(cap:Nat)(p:Ps)(w:World)(hc:tk.Lies w.heap.size w a l)(hl:l.length<=1048576)(hm:∀t∈l,t.s.size<=1048576)(h:posOk p.l p.d=true)(h2:tokensOk l=true)(h3:¬0<=pb.nestOf l)(h4:(p.s&& !begins (kd l 0))=false):
  Calls Tryz.prog 24 #[.slice a l.length cap,.agg #[.int .i64 p.l,.bool p.d,.bool p.i,.bool p.g,.bool p.s]] w (POut (parse l p) w):=by
 have ag:l.length<=3000:=by
  have:=h2
  unfold tokensOk at this
  rw[Bool.and_eq_true,decide_eq_true_eq]at this
  exact this.1
 have aj:=toks_99 h2
 have hpl:1<=p.l/\p.l<=15:=by
  have:=h
  unfold posOk chars.inR at this
  simp at this
  omega
 rw[show parse l p=finish l (exT l p)from by unfold parse tf;rw[h,h2,if_pos rfl,if_pos rfl,if_neg h3,if_pos rfl,ex_top h]]
 have hok:=ex_ok (l:=l) (M:=1048576) hm (by omega) (l.length+1) p 0 (Nat.zero_le _)
 rw[ex_top h]at hok
 obtain⟨L,d,i,gt,s⟩:=p
 obtain⟨W,hW⟩:∃W,W=(w.alloc (.cells #[.int .i64 L,.bool d,.bool i,.bool gt,.bool s] 44)).alloc (.cells #[.int .i64 0,.int .i64 0] 28):=⟨_,rfl⟩
 have hB:Below w.heap.size w W:=by rw[hW];exact((Below.refl _ _).alloc (Nat.le_refl _) _).alloc (by simp) _
 have P0:=hid (show Bk w.heap.size #[.int .i64 L,.bool d,.bool i,.bool gt,.bool s] 44 W by rw[hW];exact(Bk.new _ _ _).alloc _)
 have R0:=hid (show Bk (w.heap.size+1) #[.int .i64 0,.int .i64 0] 28 W by
  rw[hW]
  have:=Bk.new (w.alloc (.cells #[.int .i64 L,.bool d,.bool i,.bool gt,.bool s] 44)) #[.int .i64 0,.int .i64 0] 28
  simpa using this)
 have B0:=hid hB
 have HC:=hid hc
 have HL:=hid hl
 have HM:=hid hm
 have p0:=P0.c5
 rw[hW]at p0
 have HPO:=hid (fun W2=>_root_.Go.Proofs.YtebjmdpkobhcbaaGreatDoor.ps.spec_ok L d i gt s W2)
 have HTO:=hid (fun W2 (K:tk.Lies W2.heap.size W2 a l)=>tksok.spec_toksOk l a cap W2 hl K hm)
 have HNE:=hid (fun W2 (K:tk.Lies W2.heap.size W2 a l)=>pb.spec_nestOf l a cap W2 hl K)
 have HFA:=hid (fun j k W2 (K:tk.Lies W2.heap.size W2 a l) hj=>fault_any l a cap j k W2 K hl hj hm)
 have hnr:=pb.nestOf_range l
 obtain⟨NV,hNV⟩:∃NV,pb.nestOf l=NV:=⟨_,rfl⟩
 rw[hNV]at HNE hnr
 clear hB hc hm
 simp only at*
 rw[hNV]at h3
 have H4:=hid h4
 have D:=hid ag
 have ae:=hid aj
 have HP:=hid hpl
 rw[h]at HPO
 rw[h2]at HTO
 obtain⟨R,hR⟩:∃R,exT l ⟨L,d,i,gt,s⟩=R:=⟨_,rfl⟩
 have HR:=hid hR
 rw[hR]at hok|-
 have HOK:=hid hok
 clear h h2 h4 hnr hNV aj hpl hl ag hR hok
 go_enter Tryz.func24,Tryz.ntmps24
 go_wp2_with fail
 rw[<-hW]
 clear hW p0
 refine(HPO.out _).mono ?_
 rintro e w1 ⟨rfl,b1⟩
 have P1:=hid (P0.keep b1)
 have R1:=hid (R0.keep b1)
 have B1:=hid (B0.trans (b1.mono B0.size))
 clear b1
 go_wp2_with fail
 refine(HTO.out _ (lies_on HC.out B1.out)).mono ?_
 rintro e w2 ⟨rfl,b2⟩
 have P2:=hid (P1.keep b2)
 have R2:=hid (R1.keep b2)
 have B2:=hid (B1.trans (b2.mono B1.size))
 clear b2
 go_wp2_with fail
 refine(HNE.out _ (lies_on HC.out B2.out)).mono ?_
 rintro e w3 ⟨rfl,b3⟩
 have P3:=hid (P2.keep b3)
 have R3:=hid (R2.keep b3)
 have B3:=hid (B2.trans (b3.mono B2.size))
 clear b3
 have p0:=P3.c5
 go_upto_region 8 with (fail)
 go_cut [43]from 29 to 43 (fun c wx=>c= .bool false/\w3=wx)
 case first=>
  cases s with
  |false=>
   go_wp2
   go_meet
   exact⟨rfl,rfl⟩
  |true=>
   have hb:begins (kd l 0)=true:=by have:=H4.out;simpa using this
   have q0:0<l.length:=Nat.pos_of_ne_zero (fun e=>by
    have:kd l 0=0:=by unfold kd;rw[List.getElem?_eq_none (by omega)];rfl
    rw[this]at hb
    exact absurd hb (by decide))
   have q1:¬(l.length:Int)=0:=by omega
   have q2:((l.length:Int)==0)=false:=by rw[beq_eq_false_iff_ne];exact q1
   have q4:(0:Int)<(l.length:Int):=by omega
   obtain⟨b,o,rfl,d0,-,-⟩:=pr.tok_cells HC.out B3.out q0
   rw[Nat.zero_mul,Nat.add_zero]at d0
   have HBB:=hid hb
   obtain⟨k,hk⟩:∃k,kd l 0=k:=⟨_,rfl⟩
   rw[hk]at d0 HBB
   clear hk hb q0
   go_wp2_with fail
   refine(_root_.Go.Proofs.YtebjmdpkobhcbaaGreatDoor.operand.spec_begins _ _).mono ?_
   rw[HBB.out]
   rintro e w4 ⟨rfl,rfl⟩
   go_wp2
   go_meet
   exact⟨rfl,rfl⟩
 case rest=>
  obtain⟨rfl,rfl⟩:=hcut
  have L3:=hid (lies_on HC.out B3.out)
  obtain⟨W5,F⟩:∃W5,W5=(w3.alloc (.cells #[.slice a l.length cap,.int .i64 0,.bool false,.slice none 0 0] 93)).alloc (.cells #[.slice none 0 0,.bool false] 95):=⟨_,rfl⟩
  have O:Below w3.heap.size w3 W5:=by rw[F];exact((Below.refl _ _).alloc (Nat.le_refl _) _).alloc (by simp) _
  have S5:=hid (show Sq w3 l a cap [] 0 0 false (.slice none 0 0) W5 from⟨O,by rw[F];exact(Bk.new _ _ _).alloc _,by rw[show([]:List Tk)++cms l 0 0=[]from by first|rfl|simp[cms]];exact own.Own.nil _ _,Nat.le_refl _,Nat.zero_le _⟩)
  have X5:=hid (show Mq w3.heap.size (w3.heap.size+1) #[.slice none 0 0,.bool false] 95 (.slice none 0 0) W5 from⟨by
   rw[F]
   have:=Bk.new (w3.alloc (.cells #[.slice a l.length cap,.int .i64 0,.bool false,.slice none 0 0] 93)) #[.slice none 0 0,.bool false] 95
   simpa using this,Nat.lt_succ_self _,by simp[Value.ownBlock]⟩)
  have P5:=hid (P3.keep O)
  have HWS:=hid (show W5.heap.size=w3.heap.size+2 by rw[F];simp)
  have ao:=hid O
  clear O
  obtain⟨U,V,P,Q,N⟩:=P5.c5
  rw[F]at U V P Q N
  go_upto_region 12 with (fail)
  rw[<-F]at U V P Q N|-
  clear F p0
  go_cut [57]from 51 to 57 (fun c wy=>c= .bool (d&&isInc (kd l 0))/\Below W5.heap.size W5 wy)
  case first=>
   cases d with
   |false=>
    go_wp2
    go_meet
    exact⟨rfl,Below.refl _ _⟩
   |true=>
    go_wp2_with fail
    refine(kind_any _ S5.out L3.out (by have:=D.out;omega)).mono ?_
    rintro e w6 ⟨rfl,b6⟩
    have B6:=hid b6
    clear b6 U V P Q N
    go_wp2_with fail
    refine(signs_any _ _).mono ?_
    rintro e w7 ⟨rfl,rfl⟩
    go_wp2
    go_meet
    exact⟨by simp,B6.out⟩
  case rest=>
   obtain⟨rfl,J⟩:=hcut
   have S6:=hid (S5.keep J)
   have X6:=hid (X5.keep J)
   have P6:=hid (P5.keep J)
   have HGE:=hid J.size
   clear J U V P Q N
   obtain⟨C,hC⟩:∃C,(d&&isInc (kd l 0))=C:=⟨_,rfl⟩
   have HCC:=hid hC
   rw[hC]
   clear hC
   go_upto_if 57 with (fail)
   go_cut [57]from 58 to 63 (fun _ wz=>∃W8,RelE w w3 l a cap R W8/\W8=wz)
   case first=>
    cases C with
    |false=>
     have HE:=hid (show ex l (l.length+1) (cp L i gt) 0=R by
      rw[<-HR.out]
      have h4:=H4.out
      have hc:=HCC.out
      unfold exT
      rw[if_neg (by rw[h4];decide),if_neg (by rw[hc];decide)])
     have HCA:=at_top (M:=1048576) L3.out D.out HM.out ae.out (by have:=D.out;simp;omega) HP.out.1 HP.out.2 d i gt s _ _ S6.out
     rw[HE.out]at HCA
     have p0:=P6.c5
     go_wp2_with fail
     clear p0
     refine HCA.mono ?_
     rintro e w7 ⟨T,t,h,v7,rfl,q1,q2,q3,q4⟩
     have XQ:=hid (X6.out)
     clear HCA
     have q3:=q3.up HGE.out (by rw[HWS.out];omega)
     have B7:=hid (B3.trans (q1.bel.mono B3.size))
     have R7:=hid (R3.keep q1.bel)
     have X7:=hid (XQ.go q2)
     have S7:=hid q1
     have T7:=hid q3
     have Q7:=hid q4
     have G7:=hid (show w3.heap.size+1<W5.heap.size by rw[HWS.out];omega)
     have HRW:=hid (show w.heap.size+1<w3.heap.size from R3.lt)
     clear q1 q2 q3 q4
     obtain⟨aT,cT,rfl,hTL⟩:=T7.lies
     have HTL:=hid hTL
     clear hTL
     have x0:=X7.bk.c2
     have f0:=X7.bk.f
     go_wp2
     go_meet
     exact⟨_,⟨t,h,v7,aT,cT,W5.heap.size,(S7.mset X7.out 0 _).mset (X7.set 0 _) 1 _,X7.bk.put2 _ _,(T7.low G7.out 0 _).low G7.out 1 _,(R7.oth (by have:=HRW.out;omega) 0 _).oth (by have:=HRW.out;omega) 1 _,below_put2 B7.out (by have:=HRW.out;omega) _ _,Q7.out,G7.out,nd_low HTL.out T7.out G7.out⟩,rfl⟩
    |true=>
     have hd:d=true/\isInc (kd l 0)=true:=by have:=HCC.out;simpa using this
     obtain⟨rfl,hi⟩:=hd
     have HI:=hid hi
     have HE:=hid (show preR (ex l l.length) l i gt 0=R by
      rw[<-HR.out]
      have h4:=H4.out
      unfold exT
      rw[if_neg (by rw[h4];decide),if_pos (by rw[hi];rfl)])
     clear hi
     have HCA:=pre_any (M:=1048576) L true i gt s _ S6.out L3.out (by have:=D.out;omega) (callS_one L3.out D.out HM.out ae.out) (fun p i hi=>ex_ok HM.out (by have:=D.out;omega) _ p i hi) HI.out
     rw[HE.out]at HCA
     have p0:=P6.c5
     go_wp2_with fail
     clear p0
     refine HCA.mono ?_
     rintro e w7 ⟨T,t,h,v7,rfl,q1,q2,q3,q4⟩
     have XQ:=hid (X6.out)
     clear HCA
     have q3:=q3.up HGE.out (by rw[HWS.out];omega)
     have B7:=hid (B3.trans (q1.bel.mono B3.size))
     have R7:=hid (R3.keep q1.bel)
     have X7:=hid (XQ.go q2)
     have S7:=hid q1
     have T7:=hid q3
     have Q7:=hid q4
     have G7:=hid (show w3.heap.size+1<W5.heap.size by rw[HWS.out];omega)
     have HRW:=hid (show w.heap.size+1<w3.heap.size from R3.lt)
     clear q1 q2 q3 q4
     obtain⟨aT,cT,rfl,hTL⟩:=T7.lies
     have HTL:=hid hTL
     clear hTL
     have x0:=X7.bk.c2
     have f0:=X7.bk.f
     go_wp2
     go_meet
     exact⟨_,⟨t,h,v7,aT,cT,W5.heap.size,(S7.mset X7.out 0 _).mset (X7.set 0 _) 1 _,X7.bk.put2 _ _,(T7.low G7.out 0 _).low G7.out 1 _,(R7.oth (by have:=HRW.out;omega) 0 _).oth (by have:=HRW.out;omega) 1 _,below_put2 B7.out (by have:=HRW.out;omega) _ _,Q7.out,G7.out,nd_low HTL.out T7.out G7.out⟩,rfl⟩
   case rest=>
    obtain⟨W8,⟨t,h,v7,aT,cT,B,h8,ah,af,ad,hbw,hq,aa,hnl⟩,rfl⟩:=hcut
    have S8:=hid h8
    have X8:=hid ah
    have T8:=hid af
    have R8:=hid ad
    have B8:=hid hbw
    have Q7:=hid hq
    have G7:=hid aa
    have HNL:=hid hnl
    have HRW:=hid (show w.heap.size+1<w3.heap.size from R3.lt)
    clear h8 ah af ad hbw hq aa hnl
    cases R with
    |bad j=>
     have hfin:finish l (.bad j)=⟨[],0,3,place l j⟩:=rfl
     obtain⟨PV,hPV⟩:∃PV,place l j=PV:=⟨_,rfl⟩
     have HPV:=hid hPV
     rw[hPV]at hfin
     have HFIN:=hid hfin
     clear hfin
     have HJ:=hid (show j<=l.length from HOK.out.2)
     clear hPV
     obtain⟨WL,hWL⟩:∃WL,WL=W8.alloc (.cells #[] 33):=⟨_,rfl⟩
     have RL:=hid (show Bk (w.heap.size+1) #[.int .i64 0,.int .i64 0] 28 WL by rw[hWL];exact R8.alloc _)
     have LL:=hid (show Bk W8.heap.size #[] 33 WL by rw[hWL];exact Bk.new _ _ _)
     have BL:=hid (show Below w.heap.size w WL by rw[hWL];exact B8.alloc B8.size _)
     have HLE:=hid (show w.heap.size+1<W8.heap.size from R8.lt)
     have SL:=hid (show Sq w3 l a cap [] 0 (atQ (.bad j)) (bdQ (.bad j)) v7 WL by rw[hWL];exact S8.alloc _)
     obtain⟨c0,c1,c2,c3⟩:=S8.c
     obtain⟨e0,e1,e2,e3⟩:=SL.c
     simp only[atQ,bdQ]at c1 c2 e1 e2
     rw[hWL]at e0 e1 e2 e3
     go_wp2_with fail
     rw[<-hWL]
     clear hWL c0 c1 c2 c3 e0 e1 e2 e3
     refine(HFA.out j 3 _ (lies_on HC.out BL.out) HJ.out).mono ?_
     rw[HPV.out]
     rintro e w9 ⟨rfl,b9⟩
     have R9:=hid (RL.keep b9)
     have L9:=hid (LL.keep b9)
     have B9:=hid (BL.trans (b9.mono BL.size))
     clear b9
     obtain⟨r0,r1⟩:=R9.c2
     have g0:=R9.f 0
     have g1:=R9.f 1
     go_wp2
     clear r0 r1 g0 g1
     obtain⟨t0,t1⟩:=(R9.put2 (.int .i64 3) (.int .i64 PV)).c2
     exact bodyPost_ret (v:= .tuple #[.slice (some ⟨W8.heap.size,0,none⟩) 0 0,.int .i64 0,.agg #[.int .i64 3,.int .i64 PV]]) (by simp[results,Tryz.results24,go_sem,t0,t1]) rfl (by rw[HFIN.out];exact pout_lit rfl L9.out (by have:=HLE.out;omega) (by have:=HLE.out;omega) (Nat.le_succ _) B9.out)
    |ok lv tg t' j=>
     obtain⟨rfl,-⟩:=Q7.out
     obtain⟨o1,o2,o3,o4,o5,o6⟩:=HOK.out
     obtain⟨SK,hSK⟩:∃SK,(sf t).1=SK:=⟨_,rfl⟩
     obtain⟨SA,hSA⟩:∃SA,(sf t).2=SA:=⟨_,rfl⟩
     have hfin:finish l (.ok lv tg t j)=if SK=0 then⟨t,j,0,0⟩else⟨[],0,SK,SA⟩:=by show(if(sf t).1=0 then(⟨t,j,0,0⟩:pe.Out)else⟨[],0,(sf t).1,(sf t).2⟩)=_;rw[hSK,hSA]
     have HFIN:=hid hfin
     clear hfin
     have HSF:=hid (size_any t aT cT W8 HNL.out (by have:=D.out;omega) (fun n hn=>by have:=(o6 n hn).1;omega))
     rw[hSK,hSA]at HSF
     clear o1 o2 o3 o4 o5 o6 hSK hSA
     obtain⟨c0,c1,c2,c3⟩:=S8.c
     obtain⟨y0,y1⟩:=X8.c2
     simp only[atQ,bdQ]at c1 c2
     go_wp2_with fail
     clear c0 c1 c2 c3 y0 y1
     refine HSF.mono ?_
     rintro e w9 ⟨rfl,b9⟩
     obtain⟨A,y⟩:∃A,A=w9.alloc (.cells #[.int .i64 SK,.int .i64 SA] 28):=⟨_,rfl⟩
     have H:Below w9.heap.size w9 A:=by rw[y];exact(Below.refl _ _).alloc (Nat.le_refl _) _
     have G:=hid ((R8.keep b9).keep H)
     have Z:=hid ((B8.trans (b9.mono B8.size)).trans (H.mono (Nat.le_trans B8.size b9.size)))
     have am:=hid ((S8.keep b9).keep H)
     have ak:=hid ((X8.keep b9).keep H)
     have al:=hid ((T8.keep b9).keep H)
     have ac:=hid (show Bk w9.heap.size #[.int .i64 SK,.int .i64 SA] 28 A by rw[y];exact Bk.new _ _ _)
     have an:=hid (show w.heap.size+1<w9.heap.size from(R8.keep b9).lt)
     clear b9 H
     obtain⟨c0,c1,c2,c3⟩:=am.c
     obtain⟨y0,y1⟩:=ak.c2
     obtain⟨u0,u1⟩:=ac.c2
     simp only[atQ,bdQ]at c1 c2
     obtain⟨r0,r1⟩:=G.c2
     have g0:=G.f 0
     have g1:=G.f 1
     by_cases hs:SK=0
     ·subst hs
      rw[if_pos rfl]at HFIN
      rw[y]at c0 c1 c2 c3 y0 y1 u0 u1 r0 r1 g0 g1
      go_wp2
      rw[<-y]at c0 c1 c2 c3 y0 y1 u0 u1 r0 r1 g0 g1|-
      clear y
      go_region
      go_wp2
      obtain⟨t0,t1⟩:=(G.put2 (.int .i64 0) (.int .i64 0)).c2
      refine bodyPost_ret (v:= .tuple #[.slice aT t.length cT,.int .i64 (j:Int),.agg #[.int .i64 0,.int .i64 0]]) (by simp[results,Tryz.results24,go_sem,t0,t1]) rfl ?_
      have hlow:w.heap.size+1<B:=by have:=HRW.out;have:=G7.out;omega
      obtain⟨-,z,r,hp,hz,-,-⟩:=((al.keep (Below.refl _ _).drew).low hlow 0 (.int .i64 0)).low hlow 1 (.int .i64 0)
      rw[HFIN.out]
      exact⟨_,z,r,rfl,hz,pr.PT.up hp (by omega),below_put2 Z.drew (Nat.le_succ _) _ _⟩
     ·rw[if_neg hs]at HFIN
      obtain⟨n1,n2⟩:=ne_facts hs
      rw[y]at c0 c1 c2 c3 y0 y1 u0 u1 r0 r1 g0 g1
      go_wp2
      rw[<-y]at c0 c1 c2 c3 y0 y1 u0 u1 r0 r1 g0 g1|-
      clear y
      obtain⟨WL,hWL⟩:∃WL,WL=A.alloc (.cells #[] 33):=⟨_,rfl⟩
      have RL:=hid (show Bk (w.heap.size+1) #[.int .i64 0,.int .i64 0] 28 WL by rw[hWL];exact G.alloc _)
      have LL:=hid (show Bk A.heap.size #[] 33 WL by rw[hWL];exact Bk.new _ _ _)
      have BL:=hid (show Below w.heap.size w WL by rw[hWL];exact Z.alloc Z.size _)
      have HLE:=hid (show w.heap.size+1<A.heap.size from G.lt)
      have FL:=hid (show Bk w9.heap.size #[.int .i64 SK,.int .i64 SA] 28 WL by rw[hWL];exact ac.alloc _)
      have v0:=FL.c2
      have ab:=RL.c2
      have ai:=RL.f
      rw[hWL]at v0 ab ai
      go_region
      go_wp2
      rw[<-hWL]
      clear hWL v0 ab ai r0 r1 g0 g1 c0 c1 c2 c3 y0 y1 u0 u1
      obtain⟨t0,t1⟩:=((RL.put2 (.int .i64 SK) (.int .i64 SA)).keep ((Below.refl _ _).drew)).c2
      exact bodyPost_ret (v:= .tuple #[.slice (some ⟨A.heap.size,0,none⟩) 0 0,.int .i64 0,.agg #[.int .i64 SK,.int .i64 SA]]) (by simp[results,Tryz.results24,go_sem,t0,t1]) rfl (by rw[HFIN.out];exact pout_drew (pout_lit rfl LL.out (by have:=HLE.out;omega) (by have:=HLE.out;omega) (Nat.le_succ _) BL.out))
end Go.Proofs.YtebjmdpkobhcbaaGreatDoor.qs
