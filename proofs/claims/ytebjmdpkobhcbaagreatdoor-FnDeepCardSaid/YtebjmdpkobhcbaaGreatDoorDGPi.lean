/- A part of the proof; no condition of its own. -/
import Derived.Test.YtebjmdpkobhcbaaGreatDoorDPeUp
import Derived.Test.YtebjmdpkobhcbaaGreatDoorDNest
import Derived.Test.YtebjmdpkobhcbaaGreatDoorDGLx
import Derived.Test.YtebjmdpkobhcbaaGreatDoorDGDp
import Derived.Test.YtebjmdpkobhcbaaGreatDoorDGPc
namespace Go.Proofs.YtebjmdpkobhcbaaGreatDoor.pe
open Go.RowKit
open nd (Nd depthF)
open tk (Tk)
open ps (Ps posOk)
open tksok (tokensOk)
set_option linter.unusedVariables false
set_option linter.unusedSimpArgs false
def ta(l:List Tk)(i:Nat):Int:=(l[i]?.map (·.a)).getD 0
theorem ta_at{l:List Tk}{i:Nat}(h:i<l.length):ta l i=l[i].a:=by unfold ta;rw[List.getElem?_eq_getElem h];rfl
def place(l:List Tk)(i:Nat):Int:=
 if i<l.length then ta l i else if l.length=0 then 0 else wrap64 (ta l (l.length-1)+((tx l (l.length-1)).size:Int))
def tf(l:List Tk):Int×Int:=if tokensOk l=true then(if 0≤pb.nestOf l then(4,place l (pb.nestOf l).toNat)else(0,0))else(2,0)
def sf(t:List Nd):Int×Int:=if 400<t.length then(1,0)else if 40<depthF t then(4,0)else(0,0)
structure Out where
 t:List Nd
 n:Nat
 k:Int
 a:Int
def finish(l:List Tk):R→Out
 | .bad j=>⟨[],0,3,place l j⟩
 | .ok _ _ t j=>if(sf t).1=0 then⟨t,j,0,0⟩else⟨[],0,(sf t).1,(sf t).2⟩
def parse(l:List Tk)(p:Ps):Out:=
 if posOk p.l p.d=true then
  (if(tf l).1=0 then finish l (ex l (l.length+1) p 0)else⟨[],0,(tf l).1,(tf l).2⟩)
 else⟨[],0,3,0⟩
theorem toks_len{l:List Tk}(h:(tf l).1=0):tokensOk l=true∧l.length≤3000∧pb.nestOf l<0:=by
 unfold tf at h
 split at h
 ·next h1=>
  refine⟨h1, ?_, ?_⟩
  ·unfold tokensOk at h1
   rw[Bool.and_eq_true,decide_eq_true_eq]at h1
   exact h1.1
  ·split at h
   ·exact absurd h (show¬(4:Int)=0 by decide)
   ·omega
 ·exact absurd h (show¬(2:Int)=0 by decide)
end Go.Proofs.YtebjmdpkobhcbaaGreatDoor.pe

namespace Go.Proofs.YtebjmdpkobhcbaaGreatDoor.pr
open Lib (hid)
open Go.ChangeShapes Go.WideShapes Go.ChangeAt Go.RowKit
open tk (Tk)
open nd (Nd PT KidV IBlk OwnI shN makeT)
open ps (Ps B5 posOk kidI top)
open pe
open spell (Held)
open tksok (tokensOk)
set_option linter.unusedVariables false
set_option linter.unusedSimpArgs false
set_option maxRecDepth 20000
theorem lies_on{w w':World}{a:Option Addr}{l:List Tk}(h:tk.Lies w.heap.size w a l)(hb:Below w.heap.size w w'):tk.Lies w'.heap.size w' a l:=(h.keep hb (Nat.le_refl _)).up hb.size
set_option maxHeartbeats 1600000 in
theorem impl_place(l:List Tk)(a:Option Addr)(cap i:Nat)(w:World)(hc:tk.Lies w.heap.size w a l)(hl:l.length≤1048576)(hi:i≤l.length)(hm:∀t∈l,t.s.size≤1048576):
  Calls Tryz.prog 35 #[.slice a l.length cap,.int .i64 (i:Int)] w fun e w'=>e= .returned (.int .i64 (place l i))∧Below w.heap.size w w':=by
 by_cases h:i<l.length
 ·obtain⟨b,o,rfl,hlt,hat⟩:=tk.lies_at hc h
  obtain⟨d0,d1,d2⟩:=hat i h
  rw[show place l i=l[i].a by unfold place;rw[if_pos h,pe.ta_at h]]
  obtain⟨y,hy⟩:∃y,l[i].a=y:=⟨_,rfl⟩
  rw[hy]at d2⊢
  obtain⟨N,hN⟩:∃N,l.length=N:=⟨_,rfl⟩
  rw[hN]at h hl hi⊢
  have h1:(i:Int)<(N:Int):=by omega
  have h0:(0:Int)≤(i:Int):=by omega
  clear hy d0 d1 hc hm hN h hat hlt
  go_enter Tryz.func35,Tryz.ntmps35
  go_wp2
  go_ret
  exact⟨rfl,Below.refl _ _⟩
 ·by_cases h0:l.length=0
  ·rw[show place l i=0 by unfold place;rw[if_neg h,if_pos h0]]
   obtain rfl:i=0:=by omega
   rw[h0]
   clear hc hl hi hm h h0
   go_enter Tryz.func35,Tryz.ntmps35
   go_wp2
   go_ret
   exact⟨rfl,Below.refl _ _⟩
  ·have hlast:l.length-1<l.length:=by omega
   obtain⟨b,o,rfl,hlt,hat⟩:=tk.lies_at hc hlast
   obtain⟨d0,d1,d2⟩:=hat (l.length-1) hlast
   have hsz:=hm _ (List.getElem_mem hlast)
   rw[show place l i=wrap64 (l[l.length-1].a+(l[l.length-1].s.size:Int)) by unfold place;rw[if_neg h,if_neg h0,pe.ta_at hlast,tx_at hlast]]
   obtain⟨t,ht⟩:∃t,l[l.length-1]=t:=⟨_,rfl⟩
   rw[ht]at d0 d1 d2 hsz⊢
   obtain⟨K,hK⟩:∃K,l.length=K+1:=⟨l.length-1,by omega⟩
   rw[hK]at h hl hi h0 d0 d1 d2⊢
   rw[show K+1-1=K by omega]at d0 d1 d2
   obtain rfl:i=K+1:=by omega
   have q1:(((K+1:Nat):Int)==0)=false:=by rw[beq_eq_false_iff_ne];omega
   have q2:¬((K+1:Nat):Int)<((K+1:Nat):Int):=by omega
   have q3:(((K+1:Nat):Int)-1)=(K:Int):=by omega
   have q4:(K:Int)<((K+1:Nat):Int):=by omega
   have q5:(0:Int)≤(K:Int):=by omega
   have HBEL:=hid (show Below w.heap.size w (w.alloc (.cells #[.int .i64 t.k,.string t.s,.int .i64 t.a] 86))from(Below.refl _ _).alloc (Nat.le_refl _) _)
   have e0:((K+1:Nat):Int)=(K:Int)+1:=by omega
   rw[e0]at q1 q2 q3 q4
   clear hc hm hat hlt ht hK h h0 hlast
   go_enter Tryz.func35,Tryz.ntmps35
   rw[e0]
   go_wp2
   go_ret
   exact⟨by first|rfl|(rw[nd.wrap_eq];rfl)|simp[nd.wrap_eq],HBEL.out⟩
set_option maxHeartbeats 1600000 in
theorem impl_tf(l:List Tk)(a:Option Addr)(cap:Nat)(w:World)(hc:tk.Lies w.heap.size w a l)(hl:l.length≤1048576)(hm:∀t∈l,t.s.size≤1048576)(hh:Held w):
  Calls Tryz.prog 49 #[.slice a l.length cap] w fun e w'=>e= .returned (.agg #[.int .i64 (tf l).1,.int .i64 (tf l).2])∧Below w.heap.size w w':=by
 have HC:=hid hc
 obtain⟨W,hW⟩:∃W,W=w.alloc (.cells #[.int .i64 0,.int .i64 0] 28):=⟨_,rfl⟩
 have hB:Below w.heap.size w W:=by rw[hW];exact(Below.refl _ _).alloc (Nat.le_refl _) _
 have HR:=hid (show Bk w.heap.size #[.int .i64 0,.int .i64 0] 28 W by rw[hW];exact Bk.new _ _ _)
 have HB:=hid hB
 have HTO:=hid (tksok.impl_toksOk l a cap W hl (lies_on hc hB) hm (hh.below hB))
 have HNE:=hid (fun W2 (h:tk.Lies W2.heap.size W2 a l)=>pb.impl_nestOf l a cap W2 hl h)
 have HPL:=hid (fun i W2 (h:tk.Lies W2.heap.size W2 a l) hi=>impl_place l a cap i W2 h hl hi hm)
 have hnr:=pb.nestOf_range l
 obtain⟨NV,hNV⟩:∃NV,pb.nestOf l=NV:=⟨_,rfl⟩
 rw[hNV]at HNE hnr
 cases ht:tokensOk l with
 |false=>
  rw[show tf l=(2,0) by unfold tf;rw[ht];rfl]
  rw[ht]at HTO
  clear hc hl hm hh hB ht hNV hnr
  go_enter Tryz.func49,Tryz.ntmps49
  go_wp2_with fail
  rw[←hW]
  clear hW
  refine HTO.mono ?_
  rintro e w1 ⟨rfl,b1⟩
  have R1:=hid (HR.keep b1)
  have B1:=hid (HB.trans (b1.mono HB.size))
  clear b1
  have r0:=R1.c2
  have g0:=R1.f
  go_wp2
  obtain⟨t0,t1⟩:=(R1.put2 (.int .i64 2) (.int .i64 0)).c2
  exact bodyPost_ret (v:= .agg #[.int .i64 2,.int .i64 0]) (by simp[results,Tryz.results49,go_sem,t0,t1]) rfl ⟨rfl,below_put2 B1.out (Nat.le_refl _) _ _⟩
 |true=>
  rw[ht]at HTO
  by_cases hn:0≤NV
  ·obtain⟨K,rfl⟩:∃K:Nat,NV=(K:Int):=⟨NV.toNat,by omega⟩
   rw[show tf l=(4,place l K) by unfold tf;rw[ht,if_pos rfl,hNV,if_pos hn];simp]
   have HK:=hid (show K≤l.length by omega)
   obtain⟨PV,hPV⟩:∃PV,place l K=PV:=⟨_,rfl⟩
   have HPV:=hid hPV
   rw[hPV]
   clear hc hl hm hh hB ht hNV hnr hPV
   go_enter Tryz.func49,Tryz.ntmps49
   go_wp2_with fail
   rw[←hW]
   clear hW
   refine HTO.mono ?_
   rintro e w1 ⟨rfl,b1⟩
   have B1:=hid (HB.trans (b1.mono HB.size))
   have R1:=hid (HR.keep b1)
   clear b1
   go_wp2_with fail
   refine(HNE.out _ (lies_on HC.out B1.out)).mono ?_
   rintro e w2 ⟨rfl,b2⟩
   have B2:=hid (B1.trans (b2.mono B1.size))
   have R2:=hid (R1.keep b2)
   clear b2
   go_wp2_with fail
   refine(HPL.out K _ (lies_on HC.out B2.out) HK.out).mono ?_
   rw[HPV.out]
   rintro e w3 ⟨rfl,b3⟩
   have B3:=hid (B2.trans (b3.mono B2.size))
   have R3:=hid (R2.keep b3)
   clear b3
   have r0:=R3.c2
   have g0:=R3.f
   go_wp2
   obtain⟨t0,t1⟩:=(R3.put2 (.int .i64 4) (.int .i64 PV)).c2
   exact bodyPost_ret (v:= .agg #[.int .i64 4,.int .i64 PV]) (by simp[results,Tryz.results49,go_sem,t0,t1]) rfl ⟨rfl,below_put2 B3.out (Nat.le_refl _) _ _⟩
  ·rw[show tf l=(0,0) by unfold tf;rw[ht,if_pos rfl,hNV,if_neg hn]]
   obtain rfl:NV= -1:=by omega
   clear hc hl hm hh hB ht hNV hnr hn
   go_enter Tryz.func49,Tryz.ntmps49
   go_wp2_with fail
   rw[←hW]
   clear hW
   refine HTO.mono ?_
   rintro e w1 ⟨rfl,b1⟩
   have B1:=hid (HB.trans (b1.mono HB.size))
   have R1:=hid (HR.keep b1)
   clear b1
   go_wp2_with fail
   refine(HNE.out _ (lies_on HC.out B1.out)).mono ?_
   rintro e w2 ⟨rfl,b2⟩
   have B2:=hid (B1.trans (b2.mono B1.size))
   have R2:=hid (R1.keep b2)
   clear b2
   have r0:=R2.c2
   have g0:=R2.f
   go_wp2
   obtain⟨t0,t1⟩:=(R2.put2 (.int .i64 0) (.int .i64 0)).c2
   exact bodyPost_ret (v:= .agg #[.int .i64 0,.int .i64 0]) (by simp[results,Tryz.results49,go_sem,t0,t1]) rfl ⟨rfl,below_put2 B2.out (Nat.le_refl _) _ _⟩
set_option maxHeartbeats 1600000 in
theorem impl_sf(t:List Nd)(a:Option Addr)(cap:Nat)(w:World)(hc:nd.Lies w.heap.size w a t)(hl:t.length≤1048576)(hk:∀n∈t,n.kids.length≤1048576):
  Calls Tryz.prog 51 #[.slice a t.length cap] w fun e w'=>e= .returned (.agg #[.int .i64 (sf t).1,.int .i64 (sf t).2])∧Below w.heap.size w w':=by
 obtain⟨W,hW⟩:∃W,W=w.alloc (.cells #[.int .i64 0,.int .i64 0] 28):=⟨_,rfl⟩
 have hB:Below w.heap.size w W:=by rw[hW];exact(Below.refl _ _).alloc (Nat.le_refl _) _
 have HR:=hid (show Bk w.heap.size #[.int .i64 0,.int .i64 0] 28 W by rw[hW];exact Bk.new _ _ _)
 have HB:=hid hB
 have HD:=hid (nd.impl_depth t a cap W hl hk (hc.on hB (Nat.le_refl _)))
 obtain⟨D,hD⟩:∃D,nd.depthF t=D:=⟨_,rfl⟩
 rw[hD]at HD
 have hsf:sf t=if 400<t.length then(1,0)else if 40<D then(4,0)else(0,0):=by unfold sf;rw[hD]
 rw[hsf]
 obtain⟨N,hN⟩:∃N,t.length=N:=⟨_,rfl⟩
 rw[hN]at HD hl⊢
 clear hc hk hB hD hsf hN
 by_cases h1:400<N
 ·have q1:(400:Int)<(N:Int):=by omega
  rw[if_pos h1]
  clear h1
  have j:=Bk.new w #[.int .i64 1,.int .i64 0] 28
  have h:=hid (show Below w.heap.size w (w.alloc (.cells #[.int .i64 1,.int .i64 0] 28))from(Below.refl _ _).alloc (Nat.le_refl _) _)
  obtain⟨t0,t1⟩:=j.c2
  clear hW
  go_enter Tryz.func51,Tryz.ntmps51
  go_wp2
  exact bodyPost_ret (v:= .agg #[.int .i64 1,.int .i64 0]) (by simp[results,Tryz.results51,go_sem,t0,t1]) rfl ⟨rfl,h.out⟩
 ·have q1:¬(400:Int)<(N:Int):=by omega
  rw[if_neg h1]
  by_cases h2:40<D
  all_goals
   first
   |(have q2:(40:Int)<(D:Int):=by omega
     rw[if_pos h2])
   |(have q2:¬(40:Int)<(D:Int):=by omega
     rw[if_neg h2])
   clear h1 h2
   go_enter Tryz.func51,Tryz.ntmps51
   go_wp2_with fail
   rw[←hW]
   clear hW
   refine HD.mono ?_
   rintro e w1 ⟨rfl,b1⟩
   have B1:=hid (HB.trans (b1.mono HB.size))
   have R1:=hid (HR.keep b1)
   clear b1
   have r0:=R1.c2
   have g0:=R1.f
   go_wp2
   first
   |(obtain⟨t0,t1⟩:=(R1.put2 (.int .i64 4) (.int .i64 0)).c2
     exact bodyPost_ret (v:= .agg #[.int .i64 4,.int .i64 0]) (by simp[results,Tryz.results51,go_sem,t0,t1]) rfl ⟨rfl,below_put2 B1.out (Nat.le_refl _) _ _⟩)
   |(obtain⟨t0,t1⟩:=(R1.put2 (.int .i64 0) (.int .i64 0)).c2
     exact bodyPost_ret (v:= .agg #[.int .i64 0,.int .i64 0]) (by simp[results,Tryz.results51,go_sem,t0,t1]) rfl ⟨rfl,below_put2 B1.out (Nat.le_refl _) _ _⟩)
end Go.Proofs.YtebjmdpkobhcbaaGreatDoor.pr

namespace Go.Proofs.YtebjmdpkobhcbaaGreatDoor.pr
open Lib (hid)
open Go.ChangeShapes Go.WideShapes Go.ChangeAt Go.RowKit
open tk (Tk)
open nd (Nd PT KidV IBlk OwnI shN makeT)
open ps (Ps B5 posOk kidI top)
open pe
open spell (Held)
open tksok (tokensOk)
set_option linter.unusedVariables false
set_option linter.unusedSimpArgs false
set_option maxRecDepth 20000
theorem PT.up{B B':Nat}{v:Value}{z:List (Nd×Value)}{r:Nat→Nat}{w:World}(h:PT B v z r w)(hB:B'≤B):PT B' v z r w:=
 ⟨⟨h.own.1,h.own.2.elim .inl (fun⟨g,cap,cur,hv,hg,r⟩=> .inr ⟨g,cap,cur,hv,Nat.le_trans hB hg,r⟩)⟩,fun i hi=>(h.kid i hi).elim .inl (fun⟨cap,h1,h2,h3,h4⟩=> .inr ⟨cap,h1,h2,Nat.le_trans hB h3,h4⟩),h.off,h.asc,h.lt⟩
def POut(O:pe.Out)(w:World)(e:Ending)(w':World):Prop:=
 ∃v z r,e= .returned (.tuple #[v,.int .i64 (O.n:Int),.agg #[.int .i64 O.k,.int .i64 O.a]])∧z.map (·.1)=O.t∧PT w.heap.size v z r w'∧Below w.heap.size w w'
theorem pout_bad{k a:Int}{w w':World}{e:Ending}(he:e= .returned (.tuple #[.slice none 0 0,.int .i64 0,.agg #[.int .i64 k,.int .i64 a]]))(hb:Below w.heap.size w w'):POut ⟨[],0,k,a⟩ w e w':=
 ⟨.slice none 0 0,[],fun i=>i,he,rfl,PT.nil _ _,hb⟩
set_option maxHeartbeats 6400000 in
theorem impl_parse(l:List Tk)(a:Option Addr)(cap:Nat)(p:Ps)(w:World)(hc:tk.Lies w.heap.size w a l)(hl:l.length≤1048576)(hm:∀t∈l,t.s.size≤1048576)(hh:Held w):
  Calls Tryz.prog 18 #[.slice a l.length cap,.agg #[.int .i64 p.l,.bool p.d,.bool p.i,.bool p.g,.bool p.s]] w (POut (parse l p) w):=by
 obtain⟨W,hW⟩:∃W,W=(w.alloc (.cells #[.int .i64 p.l,.bool p.d,.bool p.i,.bool p.g,.bool p.s] 44)).alloc (.cells #[.int .i64 0,.int .i64 0] 28):=⟨_,rfl⟩
 have hB:Below w.heap.size w W:=by rw[hW];exact((Below.refl _ _).alloc (Nat.le_refl _) _).alloc (by simp) _
 have P0:=hid (show Bk w.heap.size #[.int .i64 p.l,.bool p.d,.bool p.i,.bool p.g,.bool p.s] 44 W by rw[hW];exact(Bk.new _ _ _).alloc _)
 have R0:=hid (show Bk (w.heap.size+1) #[.int .i64 0,.int .i64 0] 28 W by
  rw[hW]
  have:=Bk.new (w.alloc (.cells #[.int .i64 p.l,.bool p.d,.bool p.i,.bool p.g,.bool p.s] 44)) #[.int .i64 0,.int .i64 0] 28
  simpa using this)
 have B0:=hid hB
 have HC:=hid hc
 have HL:=hid hl
 have HM:=hid hm
 have HH:=hid hh
 have p0:=P0.c5
 rw[hW]at p0
 have HPO:=hid (fun W2=>_root_.Go.Proofs.YtebjmdpkobhcbaaGreatDoor.ps.impl_ok p.l p.d p.i p.g p.s W2)
 clear hB hc hm hh
 cases hp:posOk p.l p.d with
 |false=>
  rw[show parse l p=⟨[],0,3,0⟩from by unfold parse;rw[hp];rfl]
  rw[hp]at HPO
  clear hp
  go_enter Tryz.func18,Tryz.ntmps18
  go_wp2_with fail
  rw[←hW]
  clear hW p0
  refine(HPO.out _).mono ?_
  rintro e w1 ⟨rfl,b1⟩
  have R1:=hid (R0.keep b1)
  have B1:=hid (B0.trans (b1.mono B0.size))
  clear b1
  obtain⟨r0,r1⟩:=R1.c2
  have g0:=R1.f 0
  have g1:=R1.f 1
  go_wp2
  obtain⟨t0,t1⟩:=(R1.put2 (.int .i64 3) (.int .i64 0)).c2
  exact bodyPost_ret (v:= .tuple #[.slice none 0 0,.int .i64 0,.agg #[.int .i64 3,.int .i64 0]]) (by simp[results,Tryz.results18,go_sem,t0,t1]) rfl (pout_bad rfl (below_put2 B1.out (Nat.le_succ _) _ _))
 |true=>
  rw[hp]at HPO
  have HTF:=hid (fun W2 F K=>impl_tf l a cap W2 F hl HM.out K)
  obtain⟨FK,hFK⟩:∃FK,(tf l).1=FK:=⟨_,rfl⟩
  obtain⟨FA,hFA⟩:∃FA,(tf l).2=FA:=⟨_,rfl⟩
  rw[hFK,hFA]at HTF
  by_cases hf:FK=0
  case neg=>
   rw[show parse l p=⟨[],0,FK,FA⟩from by unfold parse;rw[hp,if_pos rfl,hFK,if_neg hf,hFA]]
   obtain⟨q1,q2⟩:=ne_facts hf
   clear hp hFK hFA hf
   go_enter Tryz.func18,Tryz.ntmps18
   go_wp2_with fail
   rw[←hW]
   clear hW p0
   refine(HPO.out _).mono ?_
   rintro e w1 ⟨rfl,b1⟩
   have R1:=hid (R0.keep b1)
   have B1:=hid (B0.trans (b1.mono B0.size))
   clear b1
   go_wp2_with fail
   refine(HTF.out _ (lies_on HC.out B1.out) (HH.below B1.out)).mono ?_
   rintro e w2 ⟨rfl,b2⟩
   have R2:=hid (R1.keep b2)
   have B2:=hid (B1.trans (b2.mono B1.size))
   clear b2
   obtain⟨W3,h⟩:∃W3,W3=w2.alloc (.cells #[.int .i64 FK,.int .i64 FA] 28):=⟨_,rfl⟩
   have R3:=hid (show Bk (w.heap.size+1) #[.int .i64 0,.int .i64 0] 28 W3 by rw[h];exact R2.alloc _)
   have Q3:=hid (show Bk w2.heap.size #[.int .i64 FK,.int .i64 FA] 28 W3 by rw[h];exact Bk.new _ _ _)
   have B3:=hid (show Below w.heap.size w W3 by rw[h];exact B2.alloc B2.size _)
   obtain⟨r0,r1⟩:=R3.c2
   have g0:=R3.f 0
   have g1:=R3.f 1
   obtain⟨s0,s1⟩:=Q3.c2
   rw[h]at r0 r1 g0 g1 s0 s1
   go_wp2
   rw[←h]at r0 r1 g0 g1 s0 s1⊢
   clear h
   go_region
   go_wp2
   obtain⟨t0,t1⟩:=(R3.put2 (.int .i64 FK) (.int .i64 FA)).c2
   have hdr:∀j,(((W3.setCell ⟨w.heap.size+1,0,none⟩ (.int .i64 FK)).setCell ⟨w.heap.size+1,1,none⟩ (.int .i64 FA)).drew).cell? j=((W3.setCell ⟨w.heap.size+1,0,none⟩ (.int .i64 FK)).setCell ⟨w.heap.size+1,1,none⟩ (.int .i64 FA)).cell? j:=fun _=>rfl
   exact bodyPost_ret (v:= .tuple #[.slice none 0 0,.int .i64 0,.agg #[.int .i64 FK,.int .i64 FA]]) (by simp[results,Tryz.results18,go_sem,t0,t1]) rfl (pout_bad rfl (below_put2 (B3.drew) (Nat.le_succ _) _ _))
  case pos=>
   subst hf
   obtain⟨hto,J,hne⟩:=toks_len hFK
   rw[show parse l p=finish l (ex l (l.length+1) p 0)from by unfold parse;rw[hp,if_pos rfl,hFK,if_pos rfl]]
   have HOKX:=hid (ex_ok (l:=l) (M:=1048576) HM.out (by omega) (l.length+1) p 0 (Nat.zero_le _))
   have HEX:=hid (fun(w0:World) (hc0:tk.Lies w0.heap.size w0 a l)=>expr_all (w0:=w0) (a:=a) (cap:=cap) HM.out (by omega) hc0 (l.length+1) 0 (by omega))
   have HPL:=hid (fun i W2 (F:tk.Lies W2.heap.size W2 a l) hi=>impl_place l a cap i W2 F hl hi HM.out)
   have G:=hid J
   obtain⟨R,hR⟩:∃R,ex l (l.length+1) p 0=R:=⟨_,rfl⟩
   rw[hR]at HOKX⊢
   have HR:=hid hR
   have hfl:=fld_l
   obtain⟨n,hn⟩:∃n,l.length=n:=⟨_,rfl⟩
   have HN:=hid hn
   rw[hn]
   rw[hn]at HTF HPL
   clear hp hFK hFA hto J hne hR
   cases R with
   |bad j=>
    have hj:=HOKX.out.2
    rw[show finish l (.bad j)=⟨[],0,3,place l j⟩from rfl]
    obtain⟨PV,hPV⟩:∃PV,place l j=PV:=⟨_,rfl⟩
    have HPV:=hid hPV
    rw[hn]at hj
    have HJ:=hid hj
    rw[hPV]
    clear hPV hj hn
    go_enter Tryz.func18,Tryz.ntmps18
    go_wp2_with fail
    rw[←hW]
    clear hW p0
    refine(HPO.out _).mono ?_
    rintro e w1 ⟨rfl,b1⟩
    have R1:=hid (R0.keep b1)
    have P1:=hid (P0.keep b1)
    have B1:=hid (B0.trans (b1.mono B0.size))
    clear b1
    go_wp2_with fail
    refine(HTF.out _ (lies_on HC.out B1.out) (HH.below B1.out)).mono ?_
    rintro e w2 ⟨rfl,b2⟩
    obtain⟨w0,m⟩:∃w0,w0=w2.alloc (.cells #[.int .i64 0,.int .i64 FA] 28):=⟨_,rfl⟩
    have y:Below w2.heap.size w2 w0:=by rw[m];exact(Below.refl _ _).alloc (Nat.le_refl _) _
    have R2:=hid ((R1.keep b2).keep y)
    have P2:=hid ((P1.keep b2).keep y)
    have B2:=hid ((B1.trans (b2.mono B1.size)).trans (y.mono (Nat.le_trans B1.size b2.size)))
    have B:=hid (show w.heap.size+1<w0.heap.size from R2.lt)
    have QF:=hid (show Bk w2.heap.size #[.int .i64 0,.int .i64 FA] 28 w0 by rw[m];exact Bk.new _ _ _)
    have D:=hid (show w0.heap.size=w2.heap.size+1 by rw[m];simp)
    clear b2 y
    obtain⟨W3,h⟩:∃W3,W3=w0.alloc (.cells #[.slice a n cap,.int .i64 0,.slice none 0 0] 80):=⟨_,rfl⟩
    have A:Below w0.heap.size w0 W3:=by rw[h];exact(Below.refl _ _).alloc (Nat.le_refl _) _
    have S3:=hid (show St w0 a n cap 0 (.slice none 0 0) [] (fun i=>i) W3 from⟨A,by rw[h];exact Bk.new _ _ _,PT.nil _ _,fun j hj=>by simp at hj⟩)
    have R3:=hid (R2.keep A)
    have P3:=hid (P2.keep A)
    have C:=hid (HEX.out w0 (lies_on HC.out B2.out) p 0 (.slice none 0 0) [] (fun i=>i) W3 (Nat.le_refl _) (Nat.zero_le _) (by have:=G.out;simp;omega) (by rw[HN.out];exact S3.out))
    rw[HR.out,HN.out]at C
    have p0:=P3.c5
    obtain⟨s0,s1⟩:=QF.c2
    rw[h,m]at p0
    rw[m]at s0 s1
    clear A
    go_wp2_with fail
    rw[←m,←D.out,←h]
    clear h m p0 s0 s1
    refine C.mono ?_
    rintro e w4 ⟨rfl,v4,z4,r4,s4,e4,m4⟩
    have hq:Res w0 a n cap [] (X0 w0.heap.size) (.slice none 0 0) [] (fun i=>i) W3 (.bad j) (.returned (.agg #[.int .i64 0,.bool false])) w4:=⟨rfl,v4,z4,r4,s4,e4,m4⟩
    have R4:=hid (hq.bk R3.out (by unfold X0;have:=B.out;omega) (by simp[Value.ownBlock]))
    have B4:=hid (show Below w.heap.size w w4 from B2.trans (s4.bel.mono B2.size))
    have L4:=hid (lies_on HC.out B4.out)
    obtain⟨c0,c1,c2⟩:=s4.c
    simp only[lvR,tgR,atR]at c1⊢
    clear hq s4 e4 m4
    go_wp2_with fail
    refine(HPL.out j _ L4.out HJ.out).mono ?_
    rw[HPV.out]
    rintro e w5 ⟨rfl,b5⟩
    have R5:=hid (R4.keep b5)
    have B5:=hid (B4.trans (b5.mono B4.size))
    clear b5 c0 c1 c2
    obtain⟨r0,r1⟩:=R5.c2
    have g0:=R5.f 0
    have g1:=R5.f 1
    go_wp2
    obtain⟨t0,t1⟩:=(R5.put2 (.int .i64 3) (.int .i64 PV)).c2
    exact bodyPost_ret (v:= .tuple #[.slice none 0 0,.int .i64 0,.agg #[.int .i64 3,.int .i64 PV]]) (by simp[results,Tryz.results18,go_sem,t0,t1]) rfl (pout_bad rfl (below_put2 B5.out (Nat.le_succ _) _ _))
   |ok lv tg t j=>
    obtain⟨o1,o2,o3,o4,o5,o6⟩:=HOKX.out
    have q1:(lv==0)=false:=by rw[beq_eq_false_iff_ne];omega
    have q3:¬lv=0:=by omega
    obtain⟨SK,hSK⟩:∃SK,(sf t).1=SK:=⟨_,rfl⟩
    obtain⟨SA,hSA⟩:∃SA,(sf t).2=SA:=⟨_,rfl⟩
    have HFIN:=hid (show finish l (.ok lv tg t j)=if SK=0 then⟨t,j,0,0⟩else⟨[],0,SK,SA⟩ by show(if(sf t).1=0 then(⟨t,j,0,0⟩:pe.Out)else⟨[],0,(sf t).1,(sf t).2⟩)=_;rw[hSK,hSA])
    have HSF:=hid (fun av cv W2 (F:nd.Lies W2.heap.size W2 av t)=>impl_sf t av cv W2 F (by have:=G.out;omega) (fun n hn=>by have:=(o6 n hn).1;omega))
    rw[hSK,hSA]at HSF
    have I:=hid (sh_zero o6)
    rw[HFIN.out]
    clear o1 o2 o3 o4 o5 o6 hSK hSA hn HFIN
    by_cases hs:SK=0
    ·subst hs
     rw[if_pos rfl]
     go_enter Tryz.func18,Tryz.ntmps18
     go_wp2_with fail
     rw[←hW]
     clear hW p0
     refine(HPO.out _).mono ?_
     rintro e w1 ⟨rfl,b1⟩
     have R1:=hid (R0.keep b1)
     have P1:=hid (P0.keep b1)
     have B1:=hid (B0.trans (b1.mono B0.size))
     clear b1
     go_wp2_with fail
     refine(HTF.out _ (lies_on HC.out B1.out) (HH.below B1.out)).mono ?_
     rintro e w2 ⟨rfl,b2⟩
     obtain⟨w0,m⟩:∃w0,w0=w2.alloc (.cells #[.int .i64 0,.int .i64 FA] 28):=⟨_,rfl⟩
     have y:Below w2.heap.size w2 w0:=by rw[m];exact(Below.refl _ _).alloc (Nat.le_refl _) _
     have R2:=hid ((R1.keep b2).keep y)
     have P2:=hid ((P1.keep b2).keep y)
     have B2:=hid ((B1.trans (b2.mono B1.size)).trans (y.mono (Nat.le_trans B1.size b2.size)))
     have B:=hid (show w.heap.size+1<w0.heap.size from R2.lt)
     have QF:=hid (show Bk w2.heap.size #[.int .i64 0,.int .i64 FA] 28 w0 by rw[m];exact Bk.new _ _ _)
     have D:=hid (show w0.heap.size=w2.heap.size+1 by rw[m];simp)
     clear b2 y
     obtain⟨W3,h⟩:∃W3,W3=w0.alloc (.cells #[.slice a n cap,.int .i64 0,.slice none 0 0] 80):=⟨_,rfl⟩
     have A:Below w0.heap.size w0 W3:=by rw[h];exact(Below.refl _ _).alloc (Nat.le_refl _) _
     have S3:=hid (show St w0 a n cap 0 (.slice none 0 0) [] (fun i=>i) W3 from⟨A,by rw[h];exact Bk.new _ _ _,PT.nil _ _,fun j hj=>by simp at hj⟩)
     have R3:=hid (R2.keep A)
     have P3:=hid (P2.keep A)
     have C:=hid (HEX.out w0 (lies_on HC.out B2.out) p 0 (.slice none 0 0) [] (fun i=>i) W3 (Nat.le_refl _) (Nat.zero_le _) (by have:=G.out;simp;omega) (by rw[HN.out];exact S3.out))
     rw[HR.out,HN.out]at C
     have p0:=P3.c5
     obtain⟨s0,s1⟩:=QF.c2
     rw[h,m]at p0
     rw[m]at s0 s1
     clear A
     go_wp2_with fail
     rw[←m,←D.out,←h]
     clear h m p0 s0 s1
     refine C.mono ?_
     rintro e w4 ⟨rfl,v4,z4,r4,s4,e4,m4⟩
     have u:=m4 _ _ _ _ rfl
     simp only[List.nil_append,List.length_nil]at u
     have u:z4.map (·.1)=t:=u.trans I.out
     have hq:Res w0 a n cap [] (X0 w0.heap.size) (.slice none 0 0) [] (fun i=>i) W3 (.ok lv tg t j) (.returned (.agg #[.int .i64 lv,.bool tg])) w4:=⟨rfl,v4,z4,r4,s4,e4,m4⟩
     have R4:=hid (hq.bk R3.out (by unfold X0;have:=B.out;omega) (by simp[Value.ownBlock]))
     have B4:=hid (show Below w.heap.size w w4 from B2.trans (s4.bel.mono B2.size))
     simp only[atR]at s4
     simp only[lvR,tgR]
     have S4:=hid s4
     have Z4:=hid u
     obtain⟨av,cv,hv⟩:=s4.own.form
     have hzl:z4.length=t.length:=by rw[←u];simp
     rw[hzl]at hv
     subst hv
     have hnl:nd.Lies w4.heap.size w4 av t:=by rw[←u];exact s4.own.lies
     have H:=hid hnl
     obtain⟨c0,c1,c2⟩:=s4.c
     have hG:∀x:Nat,w0.heap.size+1≤x→x≠w.heap.size+1:=fun x hx=>by have:=B.out;omega
     have HG:=hid hG
     have HPT:=hid s4.own
     have HGE:=hid s4.ge
     clear hq s4 e4 m4 u hzl hnl hG
     go_wp2_with fail
     refine(HSF.out av cv _ H.out).mono ?_
     rintro e w5 ⟨rfl,b5⟩
     have S5:=hid (S4.keep b5)
     have R5:=hid (R4.keep b5)
     have B5:=hid (B4.trans (b5.mono B4.size))
     clear b5 c0 c1 c2
     obtain⟨W6,o⟩:∃W6,W6=w5.alloc (.cells #[.int .i64 0,.int .i64 SA] 28):=⟨_,rfl⟩
     have R6:=hid (show Bk (w.heap.size+1) #[.int .i64 0,.int .i64 0] 28 W6 by rw[o];exact R5.alloc _)
     have Q6:=hid (show Bk w5.heap.size #[.int .i64 0,.int .i64 SA] 28 W6 by rw[o];exact Bk.new _ _ _)
     have B6:=hid (show Below w.heap.size w W6 by rw[o];exact B5.alloc B5.size _)
     have S6:=hid (show St w0 a n cap j (.slice av t.length cv) z4 r4 W6 by rw[o];exact S5.alloc _)
     obtain⟨r0,r1⟩:=R6.c2
     have g0:=R6.f 0
     have g1:=R6.f 1
     obtain⟨s0,s1⟩:=Q6.c2
     obtain⟨c0,c1,c2⟩:=S6.c
     rw[o]at r0 r1 g0 g1 s0 s1 c0 c1 c2
     go_wp2
     rw[←o]at r0 r1 g0 g1 s0 s1 c0 c1 c2⊢
     clear o
     go_region
     go_wp2
     obtain⟨t0,t1⟩:=(R6.put2 (.int .i64 0) (.int .i64 0)).c2
     have hpt:PT w.heap.size (.slice av t.length cv) z4 r4 ((W6.setCell ⟨w.heap.size+1,0,none⟩ (.int .i64 0)).setCell ⟨w.heap.size+1,1,none⟩ (.int .i64 0)):=by
      have hg:=HG.out
      have h1:(Value.slice av t.length cv).ownBlock≠some (w.heap.size+1):=fun e=>hg _ (World.ownsRow.lt S6.own.own _ e).1 rfl
      have h2:∀k,k<z4.length→r4 k≠w.heap.size+1:=fun k hk=>hg _ (HGE.out k hk)
      exact PT.up ((S6.own.kept (nd.grown_one W6 _ 0 _) h1 h2).kept (nd.grown_one _ _ 1 _) h1 h2) (by have:=B.out;omega)
     exact bodyPost_ret (v:= .tuple #[.slice av t.length cv,.int .i64 (j:Int),.agg #[.int .i64 0,.int .i64 0]]) (by simp[results,Tryz.results18,go_sem,t0,t1]) rfl ⟨.slice av t.length cv,z4,r4,rfl,Z4.out,hpt.keep (below_drewN (Below.refl _ _) 1) (Nat.le_refl _),below_put2 (B6.drew) (Nat.le_succ _) _ _⟩
    ·rw[if_neg hs]
     obtain⟨a1,a2⟩:=ne_facts hs
     clear hs
     go_enter Tryz.func18,Tryz.ntmps18
     go_wp2_with fail
     rw[←hW]
     clear hW p0
     refine(HPO.out _).mono ?_
     rintro e w1 ⟨rfl,b1⟩
     have R1:=hid (R0.keep b1)
     have P1:=hid (P0.keep b1)
     have B1:=hid (B0.trans (b1.mono B0.size))
     clear b1
     go_wp2_with fail
     refine(HTF.out _ (lies_on HC.out B1.out) (HH.below B1.out)).mono ?_
     rintro e w2 ⟨rfl,b2⟩
     obtain⟨w0,m⟩:∃w0,w0=w2.alloc (.cells #[.int .i64 0,.int .i64 FA] 28):=⟨_,rfl⟩
     have y:Below w2.heap.size w2 w0:=by rw[m];exact(Below.refl _ _).alloc (Nat.le_refl _) _
     have R2:=hid ((R1.keep b2).keep y)
     have P2:=hid ((P1.keep b2).keep y)
     have B2:=hid ((B1.trans (b2.mono B1.size)).trans (y.mono (Nat.le_trans B1.size b2.size)))
     have B:=hid (show w.heap.size+1<w0.heap.size from R2.lt)
     have QF:=hid (show Bk w2.heap.size #[.int .i64 0,.int .i64 FA] 28 w0 by rw[m];exact Bk.new _ _ _)
     have D:=hid (show w0.heap.size=w2.heap.size+1 by rw[m];simp)
     clear b2 y
     obtain⟨W3,h⟩:∃W3,W3=w0.alloc (.cells #[.slice a n cap,.int .i64 0,.slice none 0 0] 80):=⟨_,rfl⟩
     have A:Below w0.heap.size w0 W3:=by rw[h];exact(Below.refl _ _).alloc (Nat.le_refl _) _
     have S3:=hid (show St w0 a n cap 0 (.slice none 0 0) [] (fun i=>i) W3 from⟨A,by rw[h];exact Bk.new _ _ _,PT.nil _ _,fun j hj=>by simp at hj⟩)
     have R3:=hid (R2.keep A)
     have P3:=hid (P2.keep A)
     have C:=hid (HEX.out w0 (lies_on HC.out B2.out) p 0 (.slice none 0 0) [] (fun i=>i) W3 (Nat.le_refl _) (Nat.zero_le _) (by have:=G.out;simp;omega) (by rw[HN.out];exact S3.out))
     rw[HR.out,HN.out]at C
     have p0:=P3.c5
     obtain⟨s0,s1⟩:=QF.c2
     rw[h,m]at p0
     rw[m]at s0 s1
     clear A
     go_wp2_with fail
     rw[←m,←D.out,←h]
     clear h m p0 s0 s1
     refine C.mono ?_
     rintro e w4 ⟨rfl,v4,z4,r4,s4,e4,m4⟩
     have u:=m4 _ _ _ _ rfl
     simp only[List.nil_append,List.length_nil]at u
     have u:z4.map (·.1)=t:=u.trans I.out
     have hq:Res w0 a n cap [] (X0 w0.heap.size) (.slice none 0 0) [] (fun i=>i) W3 (.ok lv tg t j) (.returned (.agg #[.int .i64 lv,.bool tg])) w4:=⟨rfl,v4,z4,r4,s4,e4,m4⟩
     have R4:=hid (hq.bk R3.out (by unfold X0;have:=B.out;omega) (by simp[Value.ownBlock]))
     have B4:=hid (show Below w.heap.size w w4 from B2.trans (s4.bel.mono B2.size))
     simp only[atR]at s4
     simp only[lvR,tgR]
     have S4:=hid s4
     have Z4:=hid u
     obtain⟨av,cv,hv⟩:=s4.own.form
     have hzl:z4.length=t.length:=by rw[←u];simp
     rw[hzl]at hv
     subst hv
     have hnl:nd.Lies w4.heap.size w4 av t:=by rw[←u];exact s4.own.lies
     have H:=hid hnl
     obtain⟨c0,c1,c2⟩:=s4.c
     have hG:∀x:Nat,w0.heap.size+1≤x→x≠w.heap.size+1:=fun x hx=>by have:=B.out;omega
     have HG:=hid hG
     have HPT:=hid s4.own
     have HGE:=hid s4.ge
     clear hq s4 e4 m4 u hzl hnl hG
     go_wp2_with fail
     refine(HSF.out av cv _ H.out).mono ?_
     rintro e w5 ⟨rfl,b5⟩
     have S5:=hid (S4.keep b5)
     have R5:=hid (R4.keep b5)
     have B5:=hid (B4.trans (b5.mono B4.size))
     clear b5 c0 c1 c2
     obtain⟨W6,o⟩:∃W6,W6=w5.alloc (.cells #[.int .i64 SK,.int .i64 SA] 28):=⟨_,rfl⟩
     have R6:=hid (show Bk (w.heap.size+1) #[.int .i64 0,.int .i64 0] 28 W6 by rw[o];exact R5.alloc _)
     have Q6:=hid (show Bk w5.heap.size #[.int .i64 SK,.int .i64 SA] 28 W6 by rw[o];exact Bk.new _ _ _)
     have B6:=hid (show Below w.heap.size w W6 by rw[o];exact B5.alloc B5.size _)
     have S6:=hid (show St w0 a n cap j (.slice av t.length cv) z4 r4 W6 by rw[o];exact S5.alloc _)
     obtain⟨r0,r1⟩:=R6.c2
     have g0:=R6.f 0
     have g1:=R6.f 1
     obtain⟨s0,s1⟩:=Q6.c2
     obtain⟨c0,c1,c2⟩:=S6.c
     rw[o]at r0 r1 g0 g1 s0 s1 c0 c1 c2
     go_wp2
     rw[←o]at r0 r1 g0 g1 s0 s1 c0 c1 c2⊢
     clear o
     go_region
     go_wp2
     obtain⟨t0,t1⟩:=(R6.put2 (.int .i64 SK) (.int .i64 SA)).c2
     exact bodyPost_ret (v:= .tuple #[.slice none 0 0,.int .i64 0,.agg #[.int .i64 SK,.int .i64 SA]]) (by simp[results,Tryz.results18,go_sem,t0,t1]) rfl (pout_bad rfl (below_put2 (B6.drew) (Nat.le_succ _) _ _))
end Go.Proofs.YtebjmdpkobhcbaaGreatDoor.pr
