/- A part of the proof; no condition of its own. -/
import Derived.Test.YtebjmdpkobhcbaaGreatDoorDPeImpl
import Derived.Test.YtebjmdpkobhcbaaGreatDoorDPeGo
import Derived.Test.YtebjmdpkobhcbaaGreatDoorDGKd
import Derived.Test.YtebjmdpkobhcbaaGreatDoorDGDp
namespace Go.Proofs.YtebjmdpkobhcbaaGreatDoor.pr
open Lib (hid)
open Go.ChangeShapes Go.WideShapes Go.ChangeAt Go.RowKit
open tk (Tk)
open nd (Nd PT KidV IBlk OwnI shN makeT)
open ps (Ps B5 posOk kidI top)
open pe
set_option linter.unusedVariables false
set_option linter.unusedSimpArgs false
set_option maxRecDepth 20000
def Rw(b q:Nat)(u:Value)(ks:List Int)(v:Value)(z:List (Nd×Value))(r:Nat→Nat)(w:World):Prop:=
 (ks=[]∧u= .slice none 0 0)∨(KidV (b+1) w q u ks∧q<w.heap.size∧(∀j,j<z.length→r j≠q)∧v.ownBlock≠some q∧b<q)
theorem Rw.form{b q:Nat}{u:Value}{ks:List Int}{v:Value}{z:List (Nd×Value)}{r:Nat→Nat}{w:World}(h:Rw b q u ks v z r w):∃ak ck,u= .slice ak ks.length ck:=by
 rcases h with ⟨rfl,rfl⟩|⟨h,-⟩
 ·exact⟨none,0,rfl⟩
 ·obtain⟨a,c,e,-⟩:=h.form;exact⟨a,c,e⟩
theorem Rw.on{b q:Nat}{u:Value}{ks:List Int}{v v':Value}{z z':List (Nd×Value)}{r r':Nat→Nat}{w w':World}(h:Rw b q u ks v z r w)(e:Ext (X0 b) v z r w v' z' r' w'):Rw b q u ks v' z' r' w':=by
 rcases h with h|⟨h1,h2,h3,h4,h5⟩
 ·exact .inl h
 ·refine .inr ⟨h1.keep (e.g.keep q h2 (show¬q=b by omega) (fun x=>h4 x.symm)),Nat.lt_of_lt_of_le h2 e.g.size,fun j hj=> ?_,fun x=>e.g.ne h2 (fun y=>h4 y.symm) x.symm,h5⟩
  rcases Nat.lt_or_ge j z.length with h|h
  ·rw[e.old j h];exact h3 j h
  ·rcases e.new j h hj with h6|h6
   ·omega
   ·have:r' j=b:=h6;omega
theorem Rw.quiet{b q:Nat}{u:Value}{ks:List Int}{v:Value}{z:List (Nd×Value)}{r:Nat→Nat}{w w':World}(h:Rw b q u ks v z r w)(hb:Below w.heap.size w w'):Rw b q u ks v z r w':=h.on (Ext.of (Gr.quiet hb))
def lvR:R→Int
 | .bad _=>0
 | .ok lv _ _ _=>lv
def tgR:R→Bool
 | .bad _=>false
 | .ok _ tg _ _=>tg
def atR:R→Nat
 | .bad j=>j
 | .ok _ _ _ j=>j
def okR:R→Bool
 | .bad _=>false
 | .ok _ _ _ _=>true
def Res(w0:World)(a:Option Addr)(n cap:Nat)(zb:List Nd)(X:Nat→Prop)(v:Value)(z:List (Nd×Value))(r:Nat→Nat)(w:World)(R:R)(e:Ending)(w':World):Prop:=
 e= .returned (.agg #[.int .i64 (lvR R),.bool (tgR R)])∧∃v' z' r',St w0 a n cap (atR R) v' z' r' w'∧Ext X v z r w v' z' r' w'∧∀lv tg t j,R= .ok lv tg t j→z'.map (·.1)=zb++t.map (shN (zb.length:Int))
section
variable {w0:World} {a:Option Addr} {n cap:Nat} {zb:List Nd} {X Y:Nat→Prop} {v v1:Value} {z z1:List (Nd×Value)} {r r1:Nat→Nat} {w w1:World} {R:R} {e:Ending} {w':World}
theorem Res.wide(h:Res w0 a n cap zb X v z r w R e w')(hX:∀k,k<w.heap.size→X k→Y k):Res w0 a n cap zb Y v z r w R e w':=by
 obtain⟨h1,v',z',r',h2,h3,h4⟩:=h
 exact⟨h1,v',z',r',h2,h3.wide hX,h4⟩
theorem Res.behind(h:Res w0 a n cap zb X v1 z1 r1 w1 R e w')(g:Ext X v z r w v1 z1 r1 w1):Res w0 a n cap zb X v z r w R e w':=by
 obtain⟨h1,v',z',r',h2,h3,h4⟩:=h
 exact⟨h1,v',z',r',h2,g.trans h3,h4⟩
theorem Res.done(h:Res w0 a n cap zb X v1 z1 r1 w1 R e w')(G:Ext X v z r w v1 z1 r1 w1){g:Nat}(hg:w.heap.size≤g)(hgw:g<w1.heap.size)(hx:¬X g)(hv:some g≠v1.ownBlock)(hr:∀j,j<z1.length→r1 j≠g)(hb:w0.heap.size<g)(y0 y1:Value):Res w0 a n cap zb X v z r w R e ((w'.setCell ⟨g,0,none⟩ y0).setCell ⟨g,1,none⟩ y1):=by
 obtain⟨h1,v',z',r',h2,h3,h4⟩:=h
 have k1:some g≠v'.ownBlock:=h3.g.ne hgw hv
 have k2:∀j,j<z'.length→r' j≠g:=fun j hj=>by
  rcases Nat.lt_or_ge j z1.length with h|h
  ·rw[h3.old j h];exact hr j h
  ·rcases h3.new j h hj with h5|h5
   ·omega
   ·exact fun e=>hx (e▸h5)
 have k3:g≠w0.heap.size:=by omega
 refine⟨h1,v',z',r',(h2.oset k3 k1 k2 (by omega) 0 y0).oset k3 k1 k2 (by omega) 1 y1, ?_,h4⟩
 have G2:=G.trans h3
 exact⟨(G2.g.set (.inr hg) 0 y0).set (.inr hg) 1 y1,G2.old,G2.new,G2.pre⟩
end
def CallE(w0:World)(a:Option Addr)(cap:Nat)(l:List Tk)(E:Ps→Nat→R)(i0:Nat):Prop:=
 ∀(p:Ps) (i:Nat) (v:Value) (z:List (Nd×Value)) (r:Nat→Nat) (w:World),i0≤i→i≤l.length→z.length+2*(l.length-i)≤200000→St w0 a l.length cap i v z r w→
  Calls Tryz.prog 50 #[.pointer (some ⟨w0.heap.size,0,none⟩),.agg #[.int .i64 p.l,.bool p.d,.bool p.i,.bool p.g,.bool p.s]] w (Res w0 a l.length cap (z.map (·.1)) (X0 w0.heap.size) v z r w (E p i))
theorem CallE.up{w0:World}{a:Option Addr}{cap:Nat}{l:List Tk}{E:Ps→Nat→R}{i0 i1:Nat}(h:CallE w0 a cap l E i0)(h1:i0≤i1):CallE w0 a cap l E i1:=fun p i v z r w h2=>h p i v z r w (Nat.le_trans h1 h2)
section
variable {w0:World} {l:List Tk} {a:Option Addr} {cap i:Nat} {v:Value} {z:List (Nd×Value)} {r:Nat→Nat} {E:Ps→Nat→R} {M i0:Nat}
theorem addR(k op:Int)(s:ByteArray)(zb:List Nd)(ps:List (List Nd))(u:Value)(q:Nat)(w:World)(hst:St w0 a l.length cap i v z r w)(hz:z.length≤1000000)(hrw:Rw w0.heap.size q u (G2 zb.length ps) v z r w)(hzb:z.map (·.1)=zb++G1 zb.length ps):
  Calls Tryz.prog 241 #[.pointer (some ⟨w0.heap.size,0,none⟩),.agg #[.int .i64 k,.int .i64 op,.string s,.string ⟨#[]⟩,u]] w (Res w0 a l.length cap zb (Xq w0.heap.size q) v z r w (fin k op s ps i)):=by
 have hf:=hrw.form
 have hu:u.oneCell'=true:=by obtain⟨ak,ck,rfl⟩:=hf;rfl
 obtain⟨q',hq',c1,c2,c3,c4,c5⟩:∃q',(q'=q∨w.heap.size≤q')∧(∀w1,Below w.heap.size w w1→w.heap.size<w1.heap.size→KidV (w0.heap.size+1) w1 q' u (G2 zb.length ps)∧q'<w1.heap.size)∧(∀j,j<z.length→r j≠q')∧v.ownBlock≠some q'∧w0.heap.size<q'∧q'≤w.heap.size:=by
  rcases hrw with ⟨h1,h2⟩|⟨h1,h2,h3,h4,h5⟩
  ·exact⟨w.heap.size,.inr (Nat.le_refl _),fun w1 _ h=>⟨.inl ⟨h2,h1⟩,h⟩,fun j hj=>by have:=hst.own.lt j hj;omega,fun e=>hst.new (Nat.le_refl _) e.symm,hst.lt,Nat.le_refl _⟩
  ·exact⟨q,.inl rfl,fun w1 hb _=>⟨h1.keep (hb.block q h2),Nat.lt_of_lt_of_le h2 hb.size⟩,h3,h4,h5,Nat.le_of_lt h2⟩
 refine(add_any k op s ⟨#[]⟩ (G2 zb.length ps) u q' w hst hz hu hf c1 c2 c3 c4 c5).mono ?_
 rintro e w' ⟨rfl,v',r',s',g',o',n'⟩
 refine⟨rfl,v',_,r',s',⟨g'.wide (fun k _ h=> .inl h),o',fun j h1 h2=> ?_,by simp⟩,fun lv tg t j he=> ?_⟩
 ·rw[List.length_append,List.length_singleton]at h2
  rw[show j=z.length by omega,n']
  rcases hq' with h|h
  ·exact .inr (.inr h)
  ·exact .inl h
 ·injection he with _ _ he _
  rw[←he,List.map_append,hzb,mk_nodes,List.append_assoc]
  rfl
def KRes(w0:World)(a:Option Addr)(n cap:Nat)(zb:List Nd)(ps:List (List Nd))(m:Nat)(u:Value)(q:Nat)(v:Value)(z:List (Nd×Value))(r:Nat→Nat)(w:World)(R:R)(e:Ending)(w':World):Prop:=
 e= .returned (.bool (okR R))∧∃v' z' r',St w0 a n cap (atR R) v' z' r' w'∧Ext (Xq w0.heap.size q) v z r w v' z' r' w'∧∀lv tg t j,R= .ok lv tg t j→z'.map (·.1)=zb++G1 zb.length (ps++[t])∧Rw w0.heap.size q u (G2 zb.length (ps++[t])++zs m) v' z' r' w'
set_option maxHeartbeats 3200000 in
theorem kid_any(hE:CallE w0 a cap l E i0)(hOk:∀p i,i≤l.length→Ok M l i (E p i))(k op:Int)(s:ByteArray)(m:Nat)(zb:List Nd)(ps:List (List Nd))(u:Value)(q:Nat)(p:Ps)(w:World)(h0:i0≤i)(hi:i≤l.length)(hl:l.length≤50000)(hm:ps.length+m≤10)(hz:z.length+2*(l.length-i)≤200000)(hst:St w0 a l.length cap i v z r w)(hrw:Rw w0.heap.size q u (G2 zb.length ps++zs (m+1)) v z r w)(hzb:z.map (·.1)=zb++G1 zb.length ps):
  Calls Tryz.prog 242 #[.pointer (some ⟨w0.heap.size,0,none⟩),.agg #[.int .i64 k,.int .i64 op,.string s,.string ⟨#[]⟩,u],.int .i64 (ps.length:Int),.agg #[.int .i64 p.l,.bool p.d,.bool p.i,.bool p.g,.bool p.s]] w
   (KRes w0 a l.length cap zb ps m u q v z r w (E (kq k op (ps.length+m+1) (ps.length:Int) p) i)):=by
 have hks:(G2 zb.length ps++zs (m+1)).length=ps.length+m+1:=by rw[List.length_append,G2_len];simp[zs];omega
 obtain⟨ak,ck,hu⟩:=hrw.form
 rw[hks]at hu
 subst hu
 obtain⟨N,hN⟩:∃N,N=ps.length+m+1:=⟨_,rfl⟩
 rw[←hN]at hks hrw⊢
 obtain⟨K,hK⟩:∃K,ps.length=K:=⟨_,rfl⟩
 rw[hK]at hN hm⊢
 obtain⟨W,hW⟩:∃W,W=(w.alloc (.cells #[.int .i64 k,.int .i64 op,.string s,.string ⟨#[]⟩,.slice ak N ck] 33)).alloc (.cells #[.int .i64 p.l,.bool p.d,.bool p.i,.bool p.g,.bool p.s] 44):=⟨_,rfl⟩
 have hB:Below w.heap.size w W:=by rw[hW];exact((Below.refl _ _).alloc (Nat.le_refl _) _).alloc (by simp) _
 have HN:=hid (show Bk w.heap.size #[.int .i64 k,.int .i64 op,.string s,.string ⟨#[]⟩,.slice ak N ck] 33 W by rw[hW];exact(Bk.new _ _ _).alloc _)
 have HP:=hid (show Bk (w.heap.size+1) #[.int .i64 p.l,.bool p.d,.bool p.i,.bool p.g,.bool p.s] 44 W by
  rw[hW]
  have:=Bk.new (w.alloc (.cells #[.int .i64 k,.int .i64 op,.string s,.string ⟨#[]⟩,.slice ak N ck] 33)) #[.int .i64 p.l,.bool p.d,.bool p.i,.bool p.g,.bool p.s] 44
  simpa using this)
 have HS:=hid (hst.keep hB)
 have f:=hid hst
 have HB:=hid hB
 have HX:=hid (hrw.quiet hB)
 have HKS:=hid hks
 have HZB:=hid hzb
 have HZ:=hid hz
 have HI:=hid hi
 have HL:=hid hl
 have HNE:=hid hN
 have HKE:=hid hK
 have hNb:N≤1048576:=by omega
 have HOK:=hid (hOk (kq k op N (K:Int) p) i hi)
 have HEC:=hid (fun W2 (s2:St w0 a l.length cap i v z r W2)=>hE (kq k op N (K:Int) p) i v z r W2 h0 hi hz s2)
 have n0:=HN.c5
 have p0:=HP.c5
 have hfl:=fld_l
 have B:(0:Int)≤(K:Int):=by omega
 have C:(K:Int)<(N:Int):=by omega
 have hKb:K≤10:=by omega
 clear hst hB hrw hks hzb hz hi hl hN hK hOk hE h0 hm
 rw[hW]at n0 p0
 go_enter Tryz.func242,Tryz.ntmps242
 go_wp2_with fail
 rw[←hW]
 clear hW n0 p0
 refine(_root_.Go.Proofs.YtebjmdpkobhcbaaGreatDoor.ps.impl_kidPos k op s ⟨#[]⟩ ak N ck (K:Int) p.l p.d p.i p.g p.s _ hNb).mono ?_
 rintro e w1 ⟨rfl,b1⟩
 have S1:=hid (HS.keep b1)
 have N1:=hid (HN.keep b1)
 have X1:=hid (HX.quiet b1)
 have x:=hid (show Ext (X0 w0.heap.size) v z r w v z r w1 from Ext.of (Gr.quiet (HB.trans (b1.mono HB.size))))
 have HC:=hid (HEC.out w1 S1.out)
 unfold kq at HC
 clear b1
 go_wp2_with fail
 refine HC.mono ?_
 rintro e w2 h2
 cases hr:E (kidI k op N (K:Int) p.l p.d p.i p.g p.s) i with
 |bad j=>
  rw[hr]at h2
  obtain⟨rfl,v2,z2,r2,s2,g2,-⟩:=h2
  have S2:=hid s2
  have A:=hid (x.trans g2)
  clear s2 g2
  simp only[lvR,tgR]
  go_wp2
  go_ret
  have e1:E (kq k op N (K:Int) p) i= .bad j:=hr
  rw[e1]
  exact⟨rfl,v2,z2,r2,S2.out,A.wide (fun k _ h=> .inl h),fun lv tg t j he=>by cases he⟩
 |ok lv tg t j=>
  have e1:E (kq k op N (K:Int) p) i= .ok lv tg t j:=hr
  have hok:=HOK.out
  rw[e1]at hok
  rw[hr]at h2
  obtain⟨rfl,v2,z2,r2,s2,g2,m2⟩:=h2
  simp only[lvR,tgR]
  simp only[atR]at s2
  have m2:=m2 _ _ _ _ rfl
  obtain⟨o1,o2,o3,o4,o5,o6⟩:=hok
  have y:z2.length=z.length+t.length:=by have:=congrArg List.length m2;simpa using this
  have hzl:z.length=zb.length+nd.sumL ps:=by have:=congrArg List.length HZB.out;rw[List.length_map,List.length_append,G1_len]at this;exact this
  have HM:=hid (show z2.map (·.1)=zb++G1 zb.length (ps++[t]) by
   rw[m2,HZB.out,G1_snoc,List.append_assoc,List.length_append])
  have HSB:=hid (show zb.length+nd.sumL ps+t.length≤1000000 by have:=HZ.out;have:=HL.out;omega)
  have o:0<z2.length:=by omega
  have hzx:z2.length≤1000000:=by have:=HZ.out;have:=HL.out;omega
  have HROOT:=hid (fun W2 (s3:St w0 a l.length cap j v2 z2 r2 W2)=>root_any W2 s3 o hzx)
  have S2:=hid s2
  have E2:=hid (x.trans g2)
  have X2:=hid (X1.on g2)
  have N2:=hid (N1.on g2.g (show¬w.heap.size=w0.heap.size by have:=f.lt;omega) (f.new (Nat.le_refl _)))
  have HV:=hid (show((z2.length:Int)-1)=((zb.length+(G1 zb.length (ps++[t])).length:Nat):Int)-1 by
   have:=congrArg List.length HM.out
   rw[List.length_map,List.length_append]at this
   omega)
  have hlv:(lv==0)=false:=by rw[beq_eq_false_iff_ne];omega
  obtain⟨ZV,hZV⟩:∃ZV,ZV=((z2.length:Int)-1):=⟨_,rfl⟩
  rw[←hZV]at HROOT HV
  rcases X2.out with ⟨hh,-⟩|⟨x1,x2,x3,x4,x5⟩
  ·exact absurd (congrArg List.length hh) (by rw[HKS.out];simp;omega)
  rcases x1 with ⟨-,hh⟩|⟨cc,hu,ib,iB,im⟩
  ·exact absurd (congrArg List.length hh) (by rw[HKS.out];simp;omega)
  rw[HKS.out]at hu
  injection hu with hu1 hu2 hu3
  subst hu1
  have hKL:K<(G2 zb.length ps++zs (m+1)).length:=by rw[HKS.out];omega
  have d0:=ib.at K hKL
  have d1:=ib.frozen K
  obtain⟨dx,hdx⟩:∃dx,(G2 zb.length ps++zs (m+1))[K]=dx:=⟨_,rfl⟩
  rw[hdx]at d0
  have IB:=hid ib
  have IM:=hid im
  have I2:=hid x2
  have I3:=hid x3
  have I4:=hid x4
  have I5:=hid x5
  have n0:=N2.c5
  clear s2 g2 m2 o1 o2 o3 o4 o5 o6 y hzl o hzx ib im x2 x3 x4 x5 hKL hdx iB hZV
  go_wp2
  go_region_law (first|(go_simp;go_at_call 103;refine(HROOT.out _ (by first|exact S2.out|exact S2.drew)).mono ?_;rintro e w9 ⟨rfl,rfl⟩))
  all_goals
   go_wp2
   go_ret
   rw[e1]
   have hS:=S2.drew.oset (g:=q) (by have:=I5.out;omega) (fun e=>I4.out e.symm) I3.out (Nat.le_of_lt I5.out) K (.int .i64 ZV)
   have hG:Ext (Xq w0.heap.size q) v z r w v2 z2 r2 (w2.drew.setCell ⟨q,K,none⟩ (.int .i64 ZV)):=
    (E2.wide (Y:=Xq w0.heap.size q) (fun k _ h=>Or.inl h)).trans (Ext.of (Gr.set (X:=Xq w0.heap.size q) (Gr.quiet (below_drewN (Below.refl _ _) 1)) (Or.inl (show Xq w0.heap.size q q from Or.inr rfl)) K (.int .i64 ZV)))
   refine⟨rfl,v2,z2,r2,hS,hG,fun lv' tg' t' j' he=> ?_⟩
   injection he with _ _ he _
   rw[←he]
   refine⟨HM.out,.inr ⟨.inr ⟨cc, ?_, ?_,by have:=I5.out;omega,IM.out⟩,by have:=I2.out;simpa using this,I3.out,I4.out,I5.out⟩⟩
   ·rw[←kid_set zb.length ps t m HSB.out,List.length_set,HKS.out,hu3]
   ·rw[←kid_set zb.length ps t m HSB.out,←HV.out,HKE.out]
    exact(IB.of_block (w':=w2.drew) rfl).set K ZV
end
end Go.Proofs.YtebjmdpkobhcbaaGreatDoor.pr

namespace Go.Proofs.YtebjmdpkobhcbaaGreatDoor.pr
open Lib (hid)
open Go.ChangeShapes Go.WideShapes Go.ChangeAt Go.RowKit
open tk (Tk)
open nd (Nd PT KidV IBlk OwnI shN makeT)
open ps (Ps B5 posOk kidI top)
open pe
set_option linter.unusedVariables false
set_option linter.unusedSimpArgs false
set_option maxRecDepth 20000
section
variable {w0:World} {a:Option Addr} {n cap:Nat} {zb:List Nd} {X:Nat→Prop} {v:Value} {z:List (Nd×Value)} {r:Nat→Nat} {w:World} {R:R} {e:Ending} {w':World}
theorem Res.bk(h:Res w0 a n cap zb X v z r w R e w'){g:Nat}{c:Array Value}{ty:TypeId}(hb:Bk g c ty w)(hx:¬X g)(hv:some g≠v.ownBlock):Bk g c ty w':=by
 obtain⟨-,v',z',r',h2,h3,h4⟩:=h
 exact hb.on h3.g hx hv
end
structure Own3(w0:World)(a:Option Addr)(n cap i:Nat)(v:Value)(z:List (Nd×Value))(r:Nat→Nat)(w W:World):Prop where
 st:St w0 a n cap i v z r W
 bel:Below w.heap.size w W
 lt:w0.heap.size<w.heap.size
 rows:∀j,j<z.length→r j<w.heap.size
 vown:∀g,w.heap.size≤g→some g≠v.ownBlock
theorem Own3.of{w0:World}{a:Option Addr}{n cap i:Nat}{v:Value}{z:List (Nd×Value)}{r:Nat→Nat}{w W:World}(h:St w0 a n cap i v z r w)(hb:Below w.heap.size w W):Own3 w0 a n cap i v z r w W:=
 ⟨h.keep hb,hb,h.lt,fun j hj=>h.own.lt j hj,fun g hg=>h.new hg⟩
theorem Own3.ext{w0:World}{a:Option Addr}{n cap i:Nat}{v:Value}{z:List (Nd×Value)}{r:Nat→Nat}{w W:World}(h:Own3 w0 a n cap i v z r w W)(X:Nat→Prop):Ext X v z r w v z r W:=Ext.of (Gr.quiet h.bel)
section
variable {w0:World} {l:List Tk} {a:Option Addr} {cap i:Nat} {v:Value} {z:List (Nd×Value)} {r:Nat→Nat} {E:Ps→Nat→R} {M i0:Nat}
set_option maxHeartbeats 1600000 in
theorem word_any(k op:Int)(s0:ByteArray)(zb:List Nd)(ps:List (List Nd))(u:Value)(q:Nat)(p:Ps)(w:World)(hi:i<l.length)(hl:l.length≤50000)(hc:tk.Lies w0.heap.size w0 a l)(hz:z.length≤900000)(hst:St w0 a l.length cap i v z r w)(hq:q<w.heap.size)(hrw:Rw w0.heap.size q u (G2 zb.length ps) v z r w)(hzb:z.map (·.1)=zb++G1 zb.length ps):
  Calls Tryz.prog 234 #[.pointer (some ⟨w0.heap.size,0,none⟩),.agg #[.int .i64 k,.int .i64 op,.string s0,.string ⟨#[]⟩,u],.agg #[.int .i64 p.l,.bool p.d,.bool p.i,.bool p.g,.bool p.s]] w (Res w0 a l.length cap zb (Xq w0.heap.size q) v z r w (fin k op (tx l i) ps (i+1))):=by
 obtain⟨W,hW⟩:∃W,W=((w.alloc (.cells #[.int .i64 k,.int .i64 op,.string s0,.string ⟨#[]⟩,u] 33)).alloc (.cells #[.int .i64 p.l,.bool p.d,.bool p.i,.bool p.g,.bool p.s] 44)).alloc (.cells #[.int .i64 0,.bool false] 82):=⟨_,rfl⟩
 have hB:Below w.heap.size w W:=by rw[hW];exact(((Below.refl _ _).alloc (Nat.le_refl _) _).alloc (by simp) _).alloc (by simp;omega) _
 have HO:=hid (Own3.of hst hB)
 have HN:=hid (show Bk w.heap.size #[.int .i64 k,.int .i64 op,.string s0,.string ⟨#[]⟩,u] 33 W by rw[hW];exact((Bk.new _ _ _).alloc _).alloc _)
 have HP:=hid (show Bk (w.heap.size+1) #[.int .i64 p.l,.bool p.d,.bool p.i,.bool p.g,.bool p.s] 44 W by
  rw[hW]
  have:=(Bk.new (w.alloc (.cells #[.int .i64 k,.int .i64 op,.string s0,.string ⟨#[]⟩,u] 33)) #[.int .i64 p.l,.bool p.d,.bool p.i,.bool p.g,.bool p.s] 44).alloc (.cells #[.int .i64 0,.bool false] 82)
  simpa using this)
 have HR:=hid (show Bk (w.heap.size+1+1) #[.int .i64 0,.bool false] 82 W by
  rw[hW]
  have:=Bk.new ((w.alloc (.cells #[.int .i64 k,.int .i64 op,.string s0,.string ⟨#[]⟩,u] 33)).alloc (.cells #[.int .i64 p.l,.bool p.d,.bool p.i,.bool p.g,.bool p.s] 44)) #[.int .i64 0,.bool false] 82
  simpa using this)
 have HX:=hid (hrw.quiet hB)
 have HNX:=hid (next_any W HO.st hc (by omega) (Nat.le_of_lt hi))
 have HZ:=hid (show z.length≤1000000 by omega)
 have HZB:=hid hzb
 have hib:i≤50000:=by omega
 have hfs:=fld_s
 have HQ:=hid hq
 clear hst hB hrw hzb hz hi hl hc hq
 obtain⟨x,hx⟩:∃x,tx l i=x:=⟨_,rfl⟩
 rw[hx]at HNX⊢
 clear hx
 go_enter Tryz.func234,Tryz.ntmps234
 go_wp2_with fail
 rw[←hW]
 clear hW
 refine HNX.mono ?_
 rintro e w1 ⟨rfl,b1⟩
 have S1:=hid (HO.st.keep b1)
 have N1:=hid (HN.keep b1)
 have R1:=hid (HR.keep b1)
 have X1:=hid (HX.quiet b1)
 have B1:=hid (HO.bel.trans (b1.mono HO.bel.size))
 obtain⟨c0,c1,c2⟩:=S1.c
 have f1:=S1.f 1
 have f2:=N1.f 2
 have n0:=N1.c5
 have hne:¬w.heap.size=w0.heap.size:=by have:=HO.lt;omega
 have hne':¬w0.heap.size=w.heap.size:=fun h=>hne h.symm
 have S2:=hid ((S1.oset hne (HO.vown _ (Nat.le_refl _)) (fun j hj=>by have:=HO.rows j hj;omega) (Nat.le_of_lt HO.lt) 2 (.string x)).at (i+1))
 rw[show((i+1:Nat):Int)=(i:Int)+1 by omega]at S2
 have N2:=hid ((N1.set 2 (.string x)).oth hne 1 (.int .i64 ((i:Int)+1)))
 have R2:=hid (((R1.oth (by omega:¬w.heap.size+1+1=w.heap.size) 2 (.string x))).oth (by have:=HO.lt;omega:¬w.heap.size+1+1=w0.heap.size) 1 (.int .i64 ((i:Int)+1)))
 have m0:=N2.c5
 have E2:=hid (show Ext (Xq w0.heap.size q) v z r w v z r ((w1.setCell ⟨w.heap.size,2,none⟩ (.string x)).setCell ⟨w0.heap.size,1,none⟩ (.int .i64 ((i:Int)+1)))from Ext.of (((Gr.quiet B1.out).set (.inr (Nat.le_refl _)) 2 _).set (.inl (Or.inl rfl)) 1 _))
 have X2:=hid (show Rw w0.heap.size q u (G2 zb.length ps) v z r ((w1.setCell ⟨w.heap.size,2,none⟩ (.string x)).setCell ⟨w0.heap.size,1,none⟩ (.int .i64 ((i:Int)+1))) by
  rcases X1.out with h|⟨h1,h2,h3,h4,h5⟩
  ·exact .inl h
  ·refine .inr ⟨h1.keep ?_,by simpa using h2,h3,h4,h5⟩
   rw[heap_setCell_other _ _ q _ (show q≠w0.heap.size by omega),heap_setCell_other _ _ q _ (show q≠w.heap.size by have:=HQ.out;omega)])
 have HADD:=hid (addR k op x zb ps u q _ S2.out HZ.out X2.out HZB.out)
 clear b1
 go_wp2_with fail
 refine HADD.mono ?_
 rintro e w4 h4
 obtain⟨rfl,m⟩:=id h4
 have H4:=hid h4
 have hxr:¬Xq w0.heap.size q (w.heap.size+1+1):=fun h=>by
  rcases h with h|h
  ·have:=HO.lt;omega
  ·have:=HQ.out;omega
 have R4:=hid (h4.bk R2.out hxr (HO.vown _ (by omega)))
 have r0:=R4.c2
 have f3:=R4.f
 clear h4 m
 go_wp2
 obtain⟨t0,t1⟩:=(R4.put2 (.int .i64 (lvR (fin k op x ps (i+1)))) (.bool (tgR (fin k op x ps (i+1))))).c2
 exact bodyPost_ret (v:= .agg #[.int .i64 (lvR (fin k op x ps (i+1))),.bool (tgR (fin k op x ps (i+1)))]) (by simp[results,Tryz.results234,go_sem,t0,t1]) rfl (H4.done E2.out (by omega) R2.lt hxr (HO.vown _ (by omega)) (fun j hj=>by have:=HO.rows j hj;omega) (by have:=HO.lt;omega) _ _)
end
end Go.Proofs.YtebjmdpkobhcbaaGreatDoor.pr

namespace Go.Proofs.YtebjmdpkobhcbaaGreatDoor.pr
open Go.ChangeShapes Go.WideShapes Go.ChangeAt Go.RowKit
open tk (Tk)
open nd (Nd PT KidV IBlk OwnI shN makeT)
open ps (Ps B5 posOk kidI top)
open pe
set_option linter.unusedVariables false
set_option linter.unusedSimpArgs false
set_option maxRecDepth 20000
structure Mb(X:Nat→Prop)(b g:Nat)(c:Array Value)(ty:TypeId)(v:Value)(z:List (Nd×Value))(r:Nat→Nat)(w:World):Prop where
 bk:Bk g c ty w
 x:¬X g
 b:b<g
 o:some g≠v.ownBlock
 r:∀j,j<z.length→r j≠g
section
variable {X:Nat→Prop} {b g k:Nat} {c:Array Value} {ty:TypeId} {v v':Value} {z z':List (Nd×Value)} {r r':Nat→Nat} {w w':World}
theorem Mb.ext(h:Mb X b g c ty v z r w)(e:Ext X v z r w v' z' r' w'):Mb X b g c ty v' z' r' w':=by
 refine⟨h.bk.on e.g h.x h.o,h.x,h.b,e.g.ne h.bk.lt h.o,fun j hj=> ?_⟩
 rcases Nat.lt_or_ge j z.length with h1|h1
 ·rw[e.old j h1];exact h.r j h1
 ·rcases e.new j h1 hj with h2|h2
  ·have:=h.bk.lt;omega
  ·exact fun e=>h.x (e▸h2)
theorem Mb.oth(h:Mb X b g c ty v z r w)(hne:g≠k)(j:Nat)(u:Value):Mb X b g c ty v z r (w.setCell ⟨k,j,none⟩ u):=⟨h.bk.oth hne j u,h.x,h.b,h.o,h.r⟩
theorem Mb.set(h:Mb X b g c ty v z r w)(j:Nat)(u:Value):Mb X b g (c.setIfInBounds j u) ty v z r (w.setCell ⟨g,j,none⟩ u):=⟨h.bk.set j u,h.x,h.b,h.o,h.r⟩
theorem Mb.drewN(h:Mb X b g c ty v z r w)(m:Nat):Mb X b g c ty v z r (w.drewN m):=⟨h.bk,h.x,h.b,h.o,h.r⟩
end
theorem St.mset{w0:World}{X:Nat→Prop}{a:Option Addr}{n cap i:Nat}{v:Value}{z:List (Nd×Value)}{r:Nat→Nat}{w:World}{g:Nat}{c:Array Value}{ty:TypeId}(h:St w0 a n cap i v z r w)(m:Mb X w0.heap.size g c ty v z r w)(j:Nat)(u:Value):St w0 a n cap i v z r (w.setCell ⟨g,j,none⟩ u):=
 h.oset (by have:=m.b;omega) m.o m.r (Nat.le_of_lt m.b) j u
theorem Res.fin{w0:World}{a:Option Addr}{n cap:Nat}{zb:List Nd}{X:Nat→Prop}{v v1:Value}{z z1:List (Nd×Value)}{r r1:Nat→Nat}{w w1:World}{R:R}{e:Ending}{w':World}{g:Nat}{c:Array Value}{ty:TypeId}(h:Res w0 a n cap zb X v1 z1 r1 w1 R e w')(G:Ext X v z r w v1 z1 r1 w1)(m:Mb X w0.heap.size g c ty v1 z1 r1 w1)(hg:w.heap.size≤g)(y0 y1:Value):Res w0 a n cap zb X v z r w R e ((w'.setCell ⟨g,0,none⟩ y0).setCell ⟨g,1,none⟩ y1):=
 h.done G hg m.bk.lt m.x m.o m.r m.b y0 y1
structure Fx(w0:World)(a:Option Addr)(n cap:Nat)(X:Nat→Prop)(gN:Nat)(cN:Array Value)(gP:Nat)(cP:Array Value)(gR:Nat)(v0:Value)(z0:List (Nd×Value))(r0:Nat→Nat)(ws:World)(i:Nat)(v:Value)(z:List (Nd×Value))(r:Nat→Nat)(w:World):Prop where
 st:St w0 a n cap i v z r w
 tot:Ext X v0 z0 r0 ws v z r w
 nb:Mb X w0.heap.size gN cN 33 v z r w
 pb:Mb X w0.heap.size gP cP 44 v z r w
 rb:Mb X w0.heap.size gR #[.int .i64 0,.bool false] 82 v z r w
 ge:ws.heap.size≤gR
section
variable {w0:World} {a:Option Addr} {n cap:Nat} {X:Nat→Prop} {gN:Nat} {cN:Array Value} {gP:Nat} {cP:Array Value} {gR:Nat} {v0:Value} {z0:List (Nd×Value)} {r0:Nat→Nat} {ws:World} {i i':Nat} {v v':Value} {z z':List (Nd×Value)} {r r':Nat→Nat} {w w':World}
theorem Fx.go(h:Fx w0 a n cap X gN cN gP cP gR v0 z0 r0 ws i v z r w)(s:St w0 a n cap i' v' z' r' w')(e:Ext X v z r w v' z' r' w'):Fx w0 a n cap X gN cN gP cP gR v0 z0 r0 ws i' v' z' r' w':=
 ⟨s,h.tot.trans e,h.nb.ext e,h.pb.ext e,h.rb.ext e,h.ge⟩
theorem Fx.quiet(h:Fx w0 a n cap X gN cN gP cP gR v0 z0 r0 ws i v z r w)(b:Below w.heap.size w w'):Fx w0 a n cap X gN cN gP cP gR v0 z0 r0 ws i v z r w':=
 h.go (h.st.keep b) (Ext.of (Gr.quiet b))
theorem Fx.take(h:Fx w0 a n cap X gN cN gP cP gR v0 z0 r0 ws i v z r w)(hX:X w0.heap.size)(s:St w0 a n cap i' v z r w')(e:Gr (X0 w0.heap.size) v v w w'):Fx w0 a n cap X gN cN gP cP gR v0 z0 r0 ws i' v z r w':=
 h.go s (Ext.of (e.wide (fun k _ hk=>by rw[show k=w0.heap.size from hk];exact hX)))
theorem Fx.at(h:Fx w0 a n cap X gN cN gP cP gR v0 z0 r0 ws i v z r w)(hX:X w0.heap.size):Fx w0 a n cap X gN cN gP cP gR v0 z0 r0 ws (i+1) v z r (w.setCell ⟨w0.heap.size,1,none⟩ (.int .i64 ((i:Int)+1))):=by
 have s:=h.st.at (i+1)
 rw[show((i+1:Nat):Int)=(i:Int)+1 by omega]at s
 exact h.go s (Ext.of (Gr.at hX 1 _))
theorem Fx.bad{e:Ending}{zb:List Nd}(h:Fx w0 a n cap X gN cN gP cP gR v0 z0 r0 ws i v z r w)(y0 y1:Value)(he:e= .returned (.agg #[.int .i64 0,.bool false])):Res w0 a n cap zb X v0 z0 r0 ws (.bad i) e ((w.setCell ⟨gR,0,none⟩ y0).setCell ⟨gR,1,none⟩ y1):=by
 have h0:Res w0 a n cap zb X v z r w (.bad i) e w:=⟨he,v,z,r,h.st,Ext.refl _ _ _ _ _,fun _ _ _ _ he=>by cases he⟩
 exact h0.fin h.tot h.rb h.ge y0 y1
theorem Fx.res{e:Ending}{zb:List Nd}{R:R}(h:Fx w0 a n cap X gN cN gP cP gR v0 z0 r0 ws i v z r w)(hr:Res w0 a n cap zb X v z r w R e w')(y0 y1:Value):Res w0 a n cap zb X v0 z0 r0 ws R e ((w'.setCell ⟨gR,0,none⟩ y0).setCell ⟨gR,1,none⟩ y1):=hr.fin h.tot h.rb h.ge y0 y1
theorem Fx.rbk{e:Ending}{zb:List Nd}{R:R}(h:Fx w0 a n cap X gN cN gP cP gR v0 z0 r0 ws i v z r w)(hr:Res w0 a n cap zb X v z r w R e w'):Bk gR #[.int .i64 0,.bool false] 82 w':=hr.bk h.rb.bk h.rb.x h.rb.o
theorem Fx.start{w W:World}(hst:St w0 a n cap i v z r w)(hX:∀k,X k→k<w.heap.size)(h1:Bk w.heap.size cN 33 W)(h2:Bk (w.heap.size+1) cP 44 W)(h3:Bk (w.heap.size+1+1) #[.int .i64 0,.bool false] 82 W)(hB:Below w.heap.size w W):Fx w0 a n cap X w.heap.size cN (w.heap.size+1) cP (w.heap.size+1+1) v z r w i v z r W:=by
 have m:∀(g:Nat) (c:Array Value) (ty:TypeId),w.heap.size≤g→Bk g c ty W→Mb X w0.heap.size g c ty v z r W:=fun g c ty hg hb=>⟨hb,fun h=>by have:=hX g h;omega,Nat.lt_of_lt_of_le hst.lt hg,hst.new hg,fun j hj=>by have:=hst.own.lt j hj;omega⟩
 exact⟨hst.keep hB,Ext.of (Gr.quiet hB),m _ _ _ (Nat.le_refl _) h1,m _ _ _ (by omega) h2,m _ _ _ (by omega) h3,by omega⟩
end
theorem xq_lt{b q s:Nat}(hb:b<s)(hq:q<s):∀k,Xq b q k→k<s:=fun k h=>by rcases h with rfl|rfl<;>assumption
theorem Rw.ext{b q:Nat}{u:Value}{ks:List Int}{v v':Value}{z z':List (Nd×Value)}{r r':Nat→Nat}{w w':World}(h:Rw b q u ks v z r w)(e:Ext (X0 b) v z r w v' z' r' w'):Rw b q u ks v' z' r' w':=h.on e
theorem Rw.take{b q:Nat}{u:Value}{ks:List Int}{v:Value}{z:List (Nd×Value)}{r:Nat→Nat}{w w':World}(h:Rw b q u ks v z r w)(e:Gr (X0 b) v v w w'):Rw b q u ks v z r w':=h.on (Ext.of e)
theorem Rw.at{b q:Nat}{u:Value}{ks:List Int}{v:Value}{z:List (Nd×Value)}{r:Nat→Nat}{w:World}(h:Rw b q u ks v z r w)(j:Nat)(y:Value):Rw b q u ks v z r (w.setCell ⟨b,j,none⟩ y):=h.on (Ext.of (Gr.set (X:=X0 b) (Gr.refl _ _ _) (.inl rfl) j y))
end Go.Proofs.YtebjmdpkobhcbaaGreatDoor.pr

namespace Go.Proofs.YtebjmdpkobhcbaaGreatDoor.pr
open Lib (hid)
open Go.ChangeShapes Go.WideShapes Go.ChangeAt Go.RowKit
open tk (Tk)
open nd (Nd PT KidV IBlk OwnI shN makeT)
open ps (Ps B5 posOk kidI top)
open pe
set_option linter.unusedVariables false
set_option linter.unusedSimpArgs false
set_option maxRecDepth 20000
section
variable {w0:World} {l:List Tk} {a:Option Addr} {cap i:Nat} {v:Value} {z:List (Nd×Value)} {r:Nat→Nat} {E:Ps→Nat→R} {M i0:Nat}
set_option maxHeartbeats 3200000 in
theorem kres_len{zb:List Nd}{ps:List (List Nd)}{z2:List (Nd×Value)}{t:List Nd}{lv:Int}{tg:Bool}{j:Nat}(hzb:z.map (·.1)=zb++G1 zb.length ps)(m2:z2.map (·.1)=zb++G1 zb.length (ps++[t]))(ho:Ok M l i (.ok lv tg t j))(hz:z.length+2*(l.length-i)≤200000):z2.length+2*(l.length-j)≤200000∧i<j∧j≤l.length:=by
 have h1:=congrArg List.length hzb
 have h2:=congrArg List.length m2
 rw[List.length_map,List.length_append,G1_len]at h1 h2
 rw[sum_snoc]at h2
 obtain⟨o1,o2,o3,o4,o5,o6⟩:=ho
 omega
set_option maxHeartbeats 3200000 in
theorem in_any(s0:ByteArray)(zb:List Nd)(ps:List (List Nd))(u:Value)(q:Nat)(p:Ps)(w:World)(hi:i≤l.length)(hl:l.length≤50000)(hc:tk.Lies w0.heap.size w0 a l)(hz:z.length+2*(l.length-i)≤200000)(hst:St w0 a l.length cap i v z r w)(hq:q<w.heap.size)(hrw:Rw w0.heap.size q u (G2 zb.length ps) v z r w)(hzb:z.map (·.1)=zb++G1 zb.length ps):
  Calls Tryz.prog 160 #[.pointer (some ⟨w0.heap.size,0,none⟩),.agg #[.int .i64 13,.int .i64 0,.string s0,.string ⟨#[]⟩,u],.agg #[.int .i64 p.l,.bool p.d,.bool p.i,.bool p.g,.bool p.s]] w (Res w0 a l.length cap zb (Xq w0.heap.size q) v z r w (inn l ps i)):=by
 obtain⟨W,hW⟩:∃W,W=((w.alloc (.cells #[.int .i64 13,.int .i64 0,.string s0,.string ⟨#[]⟩,u] 33)).alloc (.cells #[.int .i64 p.l,.bool p.d,.bool p.i,.bool p.g,.bool p.s] 44)).alloc (.cells #[.int .i64 0,.bool false] 82):=⟨_,rfl⟩
 have hB:Below w.heap.size w W:=by rw[hW];exact(((Below.refl _ _).alloc (Nat.le_refl _) _).alloc (by simp) _).alloc (by simp;omega) _
 have hN:Bk w.heap.size #[.int .i64 13,.int .i64 0,.string s0,.string ⟨#[]⟩,u] 33 W:=by rw[hW];exact((Bk.new _ _ _).alloc _).alloc _
 have hP:Bk (w.heap.size+1) #[.int .i64 p.l,.bool p.d,.bool p.i,.bool p.g,.bool p.s] 44 W:=by
  rw[hW]
  have:=(Bk.new (w.alloc (.cells #[.int .i64 13,.int .i64 0,.string s0,.string ⟨#[]⟩,u] 33)) #[.int .i64 p.l,.bool p.d,.bool p.i,.bool p.g,.bool p.s] 44).alloc (.cells #[.int .i64 0,.bool false] 82)
  simpa using this
 have hR:Bk (w.heap.size+1+1) #[.int .i64 0,.bool false] 82 W:=by
  rw[hW]
  have:=Bk.new ((w.alloc (.cells #[.int .i64 13,.int .i64 0,.string s0,.string ⟨#[]⟩,u] 33)).alloc (.cells #[.int .i64 p.l,.bool p.d,.bool p.i,.bool p.g,.bool p.s] 44)) #[.int .i64 0,.bool false] 82
  simpa using this
 have F0:=hid (Fx.start hst (xq_lt hst.lt hq) hN hP hR hB)
 have y:=hid (hrw.quiet hB)
 have HQ:=hid hq
 have HLT:=hid hst.lt
 have B:=hid hB
 have HZB:=hid hzb
 have HC:=hid hc
 have HL:=hid hl
 have HI:=hid hi
 have HZ:=hid hz
 have hXb:Xq w0.heap.size q w0.heap.size:=Or.inl rfl
 have HXB:=hid hXb
 have hib:i≤50000:=by omega
 have HT:=hid (take_any (v:=v) (z:=z) (r:=r) 24 W F0.st hc (by omega) hi)
 have hfk:=fld_k
 obtain⟨c0,c1,c2⟩:=F0.st.c
 have f1:=F0.st.f 1
 obtain⟨n0,n1,n2,n3,n4⟩:=F0.nb.bk.c5
 obtain⟨p0,p1,p2,p3,p4⟩:=F0.pb.bk.c5
 obtain⟨r0,r1⟩:=F0.rb.bk.c2
 have g0:=F0.rb.bk.f 0
 have g1:=F0.rb.bk.f 1
 by_cases h1:kd l i=24
 ·have hA:aft l i 24=i+1:=if_pos h1
  rw[hA,decide_eq_true h1]at HT
  have j:=kd_lt (l:=l) (i:=i) (by omega)
  have HNX:=hid (fun W2 s2=>next_any (v:=v) (z:=z) (r:=r) (cap:=cap) (i:=i+1) W2 s2 hc (by omega) j)
  have C:=hid j
  by_cases h2:kd l (i+1)=6
  ·rw[show inn l ps i=fin 13 0 (tx l (i+1)) ps (i+2)from by unfold inn;rw[if_pos h1,if_pos h2]]
   have m:=kd_lt (l:=l) (i:=i+1) (by omega)
   have HW:=hid (fun W2 s2 A o=>word_any (v:=v) (z:=z) (r:=r) (cap:=cap) (i:=i+1) 13 0 s0 zb ps u q p W2 m HL.out HC.out (by have:=HZ.out;omega) s2 A o HZB.out)
   rw[h2]at HNX
   clear h1 h2 hA j m
   clear hst hB hrw hzb hz hi hl hc hq hN hP hR hXb
   rw[hW]at c0 c1 c2 f1 n0 n1 n2 n3 n4 p0 p1 p2 p3 p4 r0 r1 g0 g1
   go_enter Tryz.func160,Tryz.ntmps160
   go_wp2_with fail
   rw[←hW]
   clear c0 c1 c2 f1 n0 n1 n2 n3 n4 p0 p1 p2 p3 p4 r0 r1 g0 g1 hW
   refine HT.mono ?_
   rintro e w1 ⟨rfl,s1,h⟩
   have F1:=hid (F0.take HXB.out s1 h)
   have X1:=hid (y.take h)
   clear s1 h
   go_wp2_with fail
   refine(HNX.out _ F1.st).mono ?_
   rintro e w2 ⟨rfl,b2⟩
   have F2:=hid (F1.quiet b2)
   have X2:=hid (X1.quiet b2)
   clear b2
   obtain⟨c0,c1,c2⟩:=F2.st.c
   have f1:=F2.st.f 1
   obtain⟨n0,n1,n2,n3,n4⟩:=F2.nb.bk.c5
   obtain⟨p0,p1,p2,p3,p4⟩:=F2.pb.bk.c5
   obtain⟨r0,r1⟩:=F2.rb.bk.c2
   have g0:=F2.rb.bk.f 0
   have g1:=F2.rb.bk.f 1
   go_wp2_with fail
   clear c0 c1 c2 f1 n0 n1 n2 n3 n4 p0 p1 p2 p3 p4 r0 r1 g0 g1
   refine(HW.out w2 F2.st (Nat.lt_of_lt_of_le HQ.out F2.tot.g.size) X2.out).mono ?_
   rintro e w9 h9
   obtain⟨rfl,x⟩:=id h9
   have H9:=hid h9
   have R9:=hid (F2.rbk h9)
   obtain⟨r0,r1⟩:=R9.c2
   have g0:=R9.f 0
   have g1:=R9.f 1
   clear h9 x
   go_wp2
   obtain⟨t0,t1⟩:=(R9.put2 (.int .i64 (lvR (fin 13 0 (tx l (i+1)) ps (i+2)))) (.bool (tgR (fin 13 0 (tx l (i+1)) ps (i+2))))).c2
   exact bodyPost_ret (v:= .agg #[.int .i64 (lvR (fin 13 0 (tx l (i+1)) ps (i+2))),.bool (tgR (fin 13 0 (tx l (i+1)) ps (i+2)))]) (by simp[results,Tryz.results160,go_sem,t0,t1]) rfl (F2.res H9.out _ _)
  ·rw[show inn l ps i= .bad (i+1)from by unfold inn;rw[if_pos h1,if_neg h2]]
   obtain⟨c,hcc⟩:∃c,kd l (i+1)=c:=⟨_,rfl⟩
   rw[hcc]at HNX h2
   obtain⟨q1,q2⟩:=ne_facts h2
   clear h1 h2 hA j hcc
   clear hst hB hrw hzb hz hi hl hc hq hN hP hR hXb
   rw[hW]at c0 c1 c2 f1 n0 n1 n2 n3 n4 p0 p1 p2 p3 p4 r0 r1 g0 g1
   go_enter Tryz.func160,Tryz.ntmps160
   go_wp2_with fail
   rw[←hW]
   clear c0 c1 c2 f1 n0 n1 n2 n3 n4 p0 p1 p2 p3 p4 r0 r1 g0 g1 hW
   refine HT.mono ?_
   rintro e w1 ⟨rfl,s1,h⟩
   have F1:=hid (F0.take HXB.out s1 h)
   clear s1 h
   go_wp2_with fail
   refine(HNX.out _ F1.st).mono ?_
   rintro e w2 ⟨rfl,b2⟩
   have F2:=hid (F1.quiet b2)
   clear b2
   obtain⟨c0,c1,c2⟩:=F2.st.c
   have f1:=F2.st.f 1
   obtain⟨n0,n1,n2,n3,n4⟩:=F2.nb.bk.c5
   obtain⟨p0,p1,p2,p3,p4⟩:=F2.pb.bk.c5
   obtain⟨r0,r1⟩:=F2.rb.bk.c2
   have g0:=F2.rb.bk.f 0
   have g1:=F2.rb.bk.f 1
   go_wp2
   obtain⟨t0,t1⟩:=(F2.rb.bk.put2 (.int .i64 0) (.bool false)).c2
   exact bodyPost_ret (v:= .agg #[.int .i64 0,.bool false]) (by simp[results,Tryz.results160,go_sem,t0,t1]) rfl (F2.bad _ _ rfl)
 ·have hA:aft l i 24=i:=if_neg h1
  rw[show inn l ps i= .bad i from by unfold inn;rw[if_neg h1]]
  rw[hA,decide_eq_false h1]at HT
  clear h1 hA
  clear hst hB hrw hzb hz hi hl hc hq hN hP hR hXb
  rw[hW]at c0 c1 c2 f1 n0 n1 n2 n3 n4 p0 p1 p2 p3 p4 r0 r1 g0 g1
  go_enter Tryz.func160,Tryz.ntmps160
  go_wp2_with fail
  rw[←hW]
  clear c0 c1 c2 f1 n0 n1 n2 n3 n4 p0 p1 p2 p3 p4 r0 r1 g0 g1 hW
  refine HT.mono ?_
  rintro e w1 ⟨rfl,s1,h⟩
  have F1:=hid (F0.take HXB.out s1 h)
  clear s1 h
  obtain⟨c0,c1,c2⟩:=F1.st.c
  have f1:=F1.st.f 1
  obtain⟨n0,n1,n2,n3,n4⟩:=F1.nb.bk.c5
  obtain⟨p0,p1,p2,p3,p4⟩:=F1.pb.bk.c5
  obtain⟨r0,r1⟩:=F1.rb.bk.c2
  have g0:=F1.rb.bk.f 0
  have g1:=F1.rb.bk.f 1
  go_wp2
  obtain⟨t0,t1⟩:=(F1.rb.bk.put2 (.int .i64 0) (.bool false)).c2
  exact bodyPost_ret (v:= .agg #[.int .i64 0,.bool false]) (by simp[results,Tryz.results160,go_sem,t0,t1]) rfl (F1.bad _ _ rfl)
set_option maxHeartbeats 3200000 in
theorem post_any(c:Int)(s0:ByteArray)(hs0:s0=⟨#[]⟩)(zb:List Nd)(ps:List (List Nd))(u:Value)(q:Nat)(p:Ps)(w:World)(hi:i<l.length)(hl:l.length≤50000)(hc:tk.Lies w0.heap.size w0 a l)(hz:z.length+2*(l.length-i)≤200000)(hst:St w0 a l.length cap i v z r w)(hq:q<w.heap.size)(hrw:Rw w0.heap.size q u (G2 zb.length ps) v z r w)(hzb:z.map (·.1)=zb++G1 zb.length ps):
  Calls Tryz.prog 158 #[.pointer (some ⟨w0.heap.size,0,none⟩),.agg #[.int .i64 10,.int .i64 c,.string s0,.string ⟨#[]⟩,u],.agg #[.int .i64 p.l,.bool p.d,.bool p.i,.bool p.g,.bool p.s]] w (Res w0 a l.length cap zb (Xq w0.heap.size q) v z r w (fin 10 c ⟨#[]⟩ ps (i+1))):=by
 subst hs0
 obtain⟨W,hW⟩:∃W,W=((w.alloc (.cells #[.int .i64 10,.int .i64 c,.string ⟨#[]⟩,.string ⟨#[]⟩,u] 33)).alloc (.cells #[.int .i64 p.l,.bool p.d,.bool p.i,.bool p.g,.bool p.s] 44)).alloc (.cells #[.int .i64 0,.bool false] 82):=⟨_,rfl⟩
 have hB:Below w.heap.size w W:=by rw[hW];exact(((Below.refl _ _).alloc (Nat.le_refl _) _).alloc (by simp) _).alloc (by simp;omega) _
 have hN:Bk w.heap.size #[.int .i64 10,.int .i64 c,.string ⟨#[]⟩,.string ⟨#[]⟩,u] 33 W:=by rw[hW];exact((Bk.new _ _ _).alloc _).alloc _
 have hP:Bk (w.heap.size+1) #[.int .i64 p.l,.bool p.d,.bool p.i,.bool p.g,.bool p.s] 44 W:=by
  rw[hW]
  have:=(Bk.new (w.alloc (.cells #[.int .i64 10,.int .i64 c,.string ⟨#[]⟩,.string ⟨#[]⟩,u] 33)) #[.int .i64 p.l,.bool p.d,.bool p.i,.bool p.g,.bool p.s] 44).alloc (.cells #[.int .i64 0,.bool false] 82)
  simpa using this
 have hR:Bk (w.heap.size+1+1) #[.int .i64 0,.bool false] 82 W:=by
  rw[hW]
  have:=Bk.new ((w.alloc (.cells #[.int .i64 10,.int .i64 c,.string ⟨#[]⟩,.string ⟨#[]⟩,u] 33)).alloc (.cells #[.int .i64 p.l,.bool p.d,.bool p.i,.bool p.g,.bool p.s] 44)) #[.int .i64 0,.bool false] 82
  simpa using this
 have F0:=hid (Fx.start hst (xq_lt hst.lt hq) hN hP hR hB)
 have Q:=hid (hrw.quiet hB)
 have HQ:=hid hq
 have HLT:=hid hst.lt
 have T:=hid hB
 have HZB:=hid hzb
 have HC:=hid hc
 have HL:=hid hl
 have HI:=hid hi
 have HZ:=hid hz
 have hXb:Xq w0.heap.size q w0.heap.size:=Or.inl rfl
 have HXB:=hid hXb
 have hib:i≤50000:=by omega
 have F1:=hid (F0.at HXB.out)
 have X1:=hid (Q.at 1 (.int .i64 ((i:Int)+1)))
 obtain⟨c0,c1,c2⟩:=F0.st.c
 have f1:=F0.st.f 1
 obtain⟨n0,n1,n2,n3,n4⟩:=F0.nb.bk.c5
 obtain⟨p0,p1,p2,p3,p4⟩:=F0.pb.bk.c5
 obtain⟨r0,r1⟩:=F0.rb.bk.c2
 have g0:=F0.rb.bk.f 0
 have g1:=F0.rb.bk.f 1
 obtain⟨m,D,o⟩:=F1.st.c
 have F:=F1.st.f 1
 obtain⟨x,h,K,y,A⟩:=F1.nb.bk.c5
 obtain⟨O,H,C,B,j⟩:=F1.pb.bk.c5
 obtain⟨J,I⟩:=F1.rb.bk.c2
 have G:=F1.rb.bk.f 0
 have N:=F1.rb.bk.f 1
 have S:=hid (show z.length≤1000000 by omega)
 clear hst hB hrw hzb hz hi hl hc hq hN hP hR hXb
 rw[hW]at c0 c1 c2 f1 n0 n1 n2 n3 n4 p0 p1 p2 p3 p4 r0 r1 g0 g1 m D o F x h K y A O H C B j J I G N
 go_enter Tryz.func158,Tryz.ntmps158
 go_wp2_with fail
 rw[←hW]
 clear c0 c1 c2 f1 n0 n1 n2 n3 n4 p0 p1 p2 p3 p4 r0 r1 g0 g1 m D o F x h K y A O H C B j J I G N hW
 refine(addR 10 c ⟨#[]⟩ zb ps u q _ F1.st S.out X1.out HZB.out).mono ?_
 rintro e w9 h9
 obtain⟨rfl,P⟩:=id h9
 have H9:=hid h9
 have R9:=hid (F1.rbk h9)
 obtain⟨r0,r1⟩:=R9.c2
 have g0:=R9.f 0
 have g1:=R9.f 1
 clear h9 P
 go_wp2
 obtain⟨t0,t1⟩:=(R9.put2 (.int .i64 (lvR (fin 10 c ⟨#[]⟩ ps (i+1)))) (.bool (tgR (fin 10 c ⟨#[]⟩ ps (i+1))))).c2
 exact bodyPost_ret (v:= .agg #[.int .i64 (lvR (fin 10 c ⟨#[]⟩ ps (i+1))),.bool (tgR (fin 10 c ⟨#[]⟩ ps (i+1)))]) (by simp[results,Tryz.results158,go_sem,t0,t1]) rfl (F1.res H9.out _ _)
set_option maxHeartbeats 3200000 in
theorem cat_any(hE:CallE w0 a cap l E i0)(hOk:∀p i,i≤l.length→Ok M l i (E p i))(k op:Int)(s0:ByteArray)(hs0:s0=⟨#[]⟩)(t:List Nd)(h0:i0≤i)(zb:List Nd)(u:Value)(q:Nat)(p:Ps)(w:World)(hi:i≤l.length)(hl:l.length≤50000)(hc:tk.Lies w0.heap.size w0 a l)(hz:z.length+2*(l.length-i)≤200000)(hst:St w0 a l.length cap i v z r w)(hq:q<w.heap.size)(hrw:Rw w0.heap.size q u (G2 zb.length [t]++zs 1) v z r w)(hzb:z.map (·.1)=zb++G1 zb.length [t]):
  Calls Tryz.prog 162 #[.pointer (some ⟨w0.heap.size,0,none⟩),.agg #[.int .i64 k,.int .i64 op,.string s0,.string ⟨#[]⟩,u],.agg #[.int .i64 p.l,.bool p.d,.bool p.i,.bool p.g,.bool p.s]] w (Res w0 a l.length cap zb (Xq w0.heap.size q) v z r w (rd2 E k op p t i)):=by
 subst hs0
 obtain⟨W,hW⟩:∃W,W=((w.alloc (.cells #[.int .i64 k,.int .i64 op,.string ⟨#[]⟩,.string ⟨#[]⟩,u] 33)).alloc (.cells #[.int .i64 p.l,.bool p.d,.bool p.i,.bool p.g,.bool p.s] 44)).alloc (.cells #[.int .i64 0,.bool false] 82):=⟨_,rfl⟩
 have hB:Below w.heap.size w W:=by rw[hW];exact(((Below.refl _ _).alloc (Nat.le_refl _) _).alloc (by simp) _).alloc (by simp;omega) _
 have hN:Bk w.heap.size #[.int .i64 k,.int .i64 op,.string ⟨#[]⟩,.string ⟨#[]⟩,u] 33 W:=by rw[hW];exact((Bk.new _ _ _).alloc _).alloc _
 have hP:Bk (w.heap.size+1) #[.int .i64 p.l,.bool p.d,.bool p.i,.bool p.g,.bool p.s] 44 W:=by
  rw[hW]
  have:=(Bk.new (w.alloc (.cells #[.int .i64 k,.int .i64 op,.string ⟨#[]⟩,.string ⟨#[]⟩,u] 33)) #[.int .i64 p.l,.bool p.d,.bool p.i,.bool p.g,.bool p.s] 44).alloc (.cells #[.int .i64 0,.bool false] 82)
  simpa using this
 have hR:Bk (w.heap.size+1+1) #[.int .i64 0,.bool false] 82 W:=by
  rw[hW]
  have:=Bk.new ((w.alloc (.cells #[.int .i64 k,.int .i64 op,.string ⟨#[]⟩,.string ⟨#[]⟩,u] 33)).alloc (.cells #[.int .i64 p.l,.bool p.d,.bool p.i,.bool p.g,.bool p.s] 44)) #[.int .i64 0,.bool false] 82
  simpa using this
 have F0:=hid (Fx.start hst (xq_lt hst.lt hq) hN hP hR hB)
 have A:=hid (hrw.quiet hB)
 have HQ:=hid hq
 have HLT:=hid hst.lt
 have B:=hid hB
 have HZB:=hid hzb
 have HC:=hid hc
 have HL:=hid hl
 have HI:=hid hi
 have HZ:=hid hz
 have hXb:Xq w0.heap.size q w0.heap.size:=Or.inl rfl
 have HXB:=hid hXb
 have hib:i≤50000:=by omega
 obtain⟨c0,c1,c2⟩:=F0.st.c
 have f1:=F0.st.f 1
 obtain⟨n0,n1,n2,n3,n4⟩:=F0.nb.bk.c5
 obtain⟨p0,p1,p2,p3,p4⟩:=F0.pb.bk.c5
 obtain⟨r0,r1⟩:=F0.rb.bk.c2
 have g0:=F0.rb.bk.f 0
 have g1:=F0.rb.bk.f 1
 have hkid:Calls Tryz.prog 242 #[.pointer (some ⟨w0.heap.size,0,none⟩),.agg #[.int .i64 k,.int .i64 op,.string ⟨#[]⟩,.string ⟨#[]⟩,u],.int .i64 1,.agg #[.int .i64 p.l,.bool p.d,.bool p.i,.bool p.g,.bool p.s]] W (KRes w0 a l.length cap zb [t] 0 u q v z r W (E (kq k op 2 1 p) i)):=kid_any hE hOk k op ⟨#[]⟩ 0 zb [t] u q p W h0 hi hl (by simp) hz F0.st A.out hzb
 have HOK:=hid (hOk (kq k op 2 1 p) i hi)
 obtain⟨RR,hRR⟩:∃RR,rd2 E k op p t i=RR:=⟨_,rfl⟩
 rw[hRR]
 have HD:=hid hRR
 have HK:=hid hkid
 clear hRR
 clear hkid hE hOk h0
 clear hst hB hrw hzb hz hi hl hc hq hN hP hR hXb
 rw[hW]at c0 c1 c2 f1 n0 n1 n2 n3 n4 p0 p1 p2 p3 p4 r0 r1 g0 g1
 go_enter Tryz.func162,Tryz.ntmps162
 go_wp2_with fail
 rw[←hW]
 clear c0 c1 c2 f1 n0 n1 n2 n3 n4 p0 p1 p2 p3 p4 r0 r1 g0 g1 hW
 refine HK.mono ?_
 rintro e w2 ⟨rfl,v2,z2,r2,s2,e2,m2⟩
 have F2:=hid (F0.go s2 e2)
 have hd:=HD.out
 unfold rd2 at hd
 clear s2 e2 HK HD
 cases hr:E (kq k op 2 1 p) i with
 |bad j=>
  rw[hr]at F2 hd
  simp only[atR]at F2
  simp only at hd
  subst hd
  clear m2 hr
  simp only[okR]
  obtain⟨r0,r1⟩:=F2.rb.bk.c2
  have g0:=F2.rb.bk.f 0
  have g1:=F2.rb.bk.f 1
  go_wp2
  obtain⟨t0,t1⟩:=(F2.rb.bk.put2 (.int .i64 0) (.bool false)).c2
  exact bodyPost_ret (v:= .agg #[.int .i64 0,.bool false]) (by simp[results,Tryz.results162,go_sem,t0,t1]) rfl (F2.bad _ _ rfl)
 |ok lv tg x j=>
  rw[hr]at F2 hd m2 HOK
  simp only[atR]at F2
  simp only at hd
  subst hd
  obtain⟨m2,x2⟩:=m2 _ _ _ _ rfl
  have h:=kres_len HZB.out m2 HOK.out HZ.out
  have m:=hid (show z2.length≤1000000 by omega)
  have o:=hid m2
  have X2:=hid (show Rw w0.heap.size q u (G2 zb.length [t,x]) v2 z2 r2 w2 by have:=x2;simpa [zs]using this)
  clear m2 x2 h hr
  simp only[okR]
  obtain⟨c0,c1,c2⟩:=F2.st.c
  have f1:=F2.st.f 1
  obtain⟨n0,n1,n2,n3,n4⟩:=F2.nb.bk.c5
  obtain⟨p0,p1,p2,p3,p4⟩:=F2.pb.bk.c5
  obtain⟨r0,r1⟩:=F2.rb.bk.c2
  have g0:=F2.rb.bk.f 0
  have g1:=F2.rb.bk.f 1
  go_wp2_with fail
  clear c0 c1 c2 f1 n0 n1 n2 n3 n4 p0 p1 p2 p3 p4 r0 r1 g0 g1
  refine(addR k op ⟨#[]⟩ zb [t,x] u q _ F2.st m.out X2.out o.out).mono ?_
  rintro e w9 h9
  obtain⟨rfl,y⟩:=id h9
  have H9:=hid h9
  have R9:=hid (F2.rbk h9)
  obtain⟨r0,r1⟩:=R9.c2
  have g0:=R9.f 0
  have g1:=R9.f 1
  clear h9 y
  go_wp2
  obtain⟨t0,t1⟩:=(R9.put2 (.int .i64 (lvR (fin k op ⟨#[]⟩ [t,x] j))) (.bool (tgR (fin k op ⟨#[]⟩ [t,x] j)))).c2
  exact bodyPost_ret (v:= .agg #[.int .i64 (lvR (fin k op ⟨#[]⟩ [t,x] j)),.bool (tgR (fin k op ⟨#[]⟩ [t,x] j))]) (by simp[results,Tryz.results162,go_sem,t0,t1]) rfl (F2.res H9.out _ _)
end
end Go.Proofs.YtebjmdpkobhcbaaGreatDoor.pr

namespace Go.Proofs.YtebjmdpkobhcbaaGreatDoor.pr
open Lib (hid)
open Go.ChangeShapes Go.WideShapes Go.ChangeAt Go.RowKit
open tk (Tk)
open nd (Nd PT KidV IBlk OwnI shN makeT)
open ps (Ps B5 posOk kidI top)
open pe
set_option linter.unusedVariables false
set_option linter.unusedSimpArgs false
set_option maxRecDepth 20000
section
variable {w0:World} {l:List Tk} {a:Option Addr} {cap i:Nat} {v:Value} {z:List (Nd×Value)} {r:Nat→Nat} {E:Ps→Nat→R} {M i0:Nat}
set_option maxHeartbeats 3200000 in
theorem prefixed_any(hE:CallE w0 a cap l E i0)(hOk:∀p i,i≤l.length→Ok M l i (E p i))(k op:Int)(s0:ByteArray)(hs0:s0=⟨#[]⟩)(h0:i0≤i+1)(zb:List Nd)(u:Value)(q:Nat)(p:Ps)(w:World)(hi:i<l.length)(hl:l.length≤50000)(hc:tk.Lies w0.heap.size w0 a l)(hz:z.length+2*(l.length-i)≤200000)(hst:St w0 a l.length cap i v z r w)(hq:q<w.heap.size)(hrw:Rw w0.heap.size q u (G2 zb.length []++zs 1) v z r w)(hzb:z.map (·.1)=zb++G1 zb.length []):
  Calls Tryz.prog 238 #[.pointer (some ⟨w0.heap.size,0,none⟩),.agg #[.int .i64 k,.int .i64 op,.string s0,.string ⟨#[]⟩,u],.agg #[.int .i64 p.l,.bool p.d,.bool p.i,.bool p.g,.bool p.s]] w (Res w0 a l.length cap zb (Xq w0.heap.size q) v z r w (pfx E k op p i)):=by
 subst hs0
 obtain⟨W,hW⟩:∃W,W=((w.alloc (.cells #[.int .i64 k,.int .i64 op,.string ⟨#[]⟩,.string ⟨#[]⟩,u] 33)).alloc (.cells #[.int .i64 p.l,.bool p.d,.bool p.i,.bool p.g,.bool p.s] 44)).alloc (.cells #[.int .i64 0,.bool false] 82):=⟨_,rfl⟩
 have hB:Below w.heap.size w W:=by rw[hW];exact(((Below.refl _ _).alloc (Nat.le_refl _) _).alloc (by simp) _).alloc (by simp;omega) _
 have hN:Bk w.heap.size #[.int .i64 k,.int .i64 op,.string ⟨#[]⟩,.string ⟨#[]⟩,u] 33 W:=by rw[hW];exact((Bk.new _ _ _).alloc _).alloc _
 have hP:Bk (w.heap.size+1) #[.int .i64 p.l,.bool p.d,.bool p.i,.bool p.g,.bool p.s] 44 W:=by
  rw[hW]
  have:=(Bk.new (w.alloc (.cells #[.int .i64 k,.int .i64 op,.string ⟨#[]⟩,.string ⟨#[]⟩,u] 33)) #[.int .i64 p.l,.bool p.d,.bool p.i,.bool p.g,.bool p.s] 44).alloc (.cells #[.int .i64 0,.bool false] 82)
  simpa using this
 have hR:Bk (w.heap.size+1+1) #[.int .i64 0,.bool false] 82 W:=by
  rw[hW]
  have:=Bk.new ((w.alloc (.cells #[.int .i64 k,.int .i64 op,.string ⟨#[]⟩,.string ⟨#[]⟩,u] 33)).alloc (.cells #[.int .i64 p.l,.bool p.d,.bool p.i,.bool p.g,.bool p.s] 44)) #[.int .i64 0,.bool false] 82
  simpa using this
 have F0:=hid (Fx.start hst (xq_lt hst.lt hq) hN hP hR hB)
 have aa:=hid (hrw.quiet hB)
 have HQ:=hid hq
 have HLT:=hid hst.lt
 have ac:=hid hB
 have HZB:=hid hzb
 have HC:=hid hc
 have HL:=hid hl
 have HI:=hid hi
 have HZ:=hid hz
 have hXb:Xq w0.heap.size q w0.heap.size:=Or.inl rfl
 have HXB:=hid hXb
 have hib:i≤50000:=by omega
 have F1:=hid (F0.at HXB.out)
 have X1:=hid (aa.at 1 (.int .i64 ((i:Int)+1)))
 obtain⟨c0,c1,c2⟩:=F0.st.c
 have f1:=F0.st.f 1
 obtain⟨n0,n1,n2,n3,n4⟩:=F0.nb.bk.c5
 obtain⟨p0,p1,p2,p3,p4⟩:=F0.pb.bk.c5
 obtain⟨r0,r1⟩:=F0.rb.bk.c2
 have g0:=F0.rb.bk.f 0
 have g1:=F0.rb.bk.f 1
 obtain⟨y,H,A⟩:=F1.st.c
 have I:=F1.st.f 1
 obtain⟨B,m,P,C,D⟩:=F1.nb.bk.c5
 obtain⟨S,K,G,F,o⟩:=F1.pb.bk.c5
 obtain⟨O,N⟩:=F1.rb.bk.c2
 have J:=F1.rb.bk.f 0
 have Q:=F1.rb.bk.f 1
 have h:z.length+2*(l.length-(i+1))≤200000:=by omega
 have hkid:Calls Tryz.prog 242 #[.pointer (some ⟨w0.heap.size,0,none⟩),.agg #[.int .i64 k,.int .i64 op,.string ⟨#[]⟩,.string ⟨#[]⟩,u],.int .i64 0,.agg #[.int .i64 p.l,.bool p.d,.bool p.i,.bool p.g,.bool p.s]] (W.setCell ⟨w0.heap.size,1,none⟩ (.int .i64 ((i:Int)+1))) (KRes w0 a l.length cap zb [] 0 u q v z r (W.setCell ⟨w0.heap.size,1,none⟩ (.int .i64 ((i:Int)+1))) (E (kq k op 1 0 p) (i+1))):=kid_any hE hOk k op ⟨#[]⟩ 0 zb [] u q p (W.setCell ⟨w0.heap.size,1,none⟩ (.int .i64 ((i:Int)+1))) h0 hi hl (by simp) h F1.st X1.out hzb
 have HOK:=hid (hOk (kq k op 1 0 p) (i+1) hi)
 have ab:=hid h
 obtain⟨RR,hRR⟩:∃RR,pfx E k op p i=RR:=⟨_,rfl⟩
 rw[hRR]
 have HD:=hid hRR
 have HK:=hid hkid
 clear hRR
 clear hkid hE hOk h0 h
 clear hst hB hrw hzb hz hi hl hc hq hN hP hR hXb
 rw[hW]at c0 c1 c2 f1 n0 n1 n2 n3 n4 p0 p1 p2 p3 p4 r0 r1 g0 g1 y H A I B m P C D S K G F o O N J Q
 go_enter Tryz.func238,Tryz.ntmps238
 go_wp2_with fail
 rw[←hW]
 clear c0 c1 c2 f1 n0 n1 n2 n3 n4 p0 p1 p2 p3 p4 r0 r1 g0 g1 y H A I B m P C D S K G F o O N J Q hW
 refine HK.mono ?_
 rintro e w2 ⟨rfl,v2,z2,r2,s2,e2,m2⟩
 have F2:=hid (F1.go s2 e2)
 have hd:=HD.out
 unfold pfx at hd
 clear s2 e2 HK HD
 cases hr:E (kq k op 1 0 p) (i+1)with
 |bad j=>
  rw[hr]at F2 hd
  simp only[atR]at F2
  simp only at hd
  subst hd
  clear m2 hr
  simp only[okR]
  obtain⟨r0,r1⟩:=F2.rb.bk.c2
  have g0:=F2.rb.bk.f 0
  have g1:=F2.rb.bk.f 1
  go_wp2
  obtain⟨t0,t1⟩:=(F2.rb.bk.put2 (.int .i64 0) (.bool false)).c2
  exact bodyPost_ret (v:= .agg #[.int .i64 0,.bool false]) (by simp[results,Tryz.results238,go_sem,t0,t1]) rfl (F2.bad _ _ rfl)
 |ok lv tg x j=>
  rw[hr]at F2 hd m2 HOK
  simp only[atR]at F2
  simp only at hd
  subst hd
  obtain⟨m2,x2⟩:=m2 _ _ _ _ rfl
  have Z:=kres_len (ps:=[]) HZB.out m2 HOK.out ab.out
  have U:=hid (show z2.length≤1000000 by omega)
  have T:=hid (show z2.map (·.1)=zb++G1 zb.length [x]from m2)
  have X2:=hid (show Rw w0.heap.size q u (G2 zb.length [x]) v2 z2 r2 w2 by have:=x2;simpa [zs]using this)
  clear m2 x2 Z hr
  simp only[okR]
  obtain⟨c0,c1,c2⟩:=F2.st.c
  have f1:=F2.st.f 1
  obtain⟨n0,n1,n2,n3,n4⟩:=F2.nb.bk.c5
  obtain⟨p0,p1,p2,p3,p4⟩:=F2.pb.bk.c5
  obtain⟨r0,r1⟩:=F2.rb.bk.c2
  have g0:=F2.rb.bk.f 0
  have g1:=F2.rb.bk.f 1
  go_wp2_with fail
  clear c0 c1 c2 f1 n0 n1 n2 n3 n4 p0 p1 p2 p3 p4 r0 r1 g0 g1
  refine(addR k op ⟨#[]⟩ zb [x] u q _ F2.st U.out X2.out T.out).mono ?_
  rintro e w9 h9
  obtain⟨rfl,V⟩:=id h9
  have H9:=hid h9
  have R9:=hid (F2.rbk h9)
  obtain⟨r0,r1⟩:=R9.c2
  have g0:=R9.f 0
  have g1:=R9.f 1
  clear h9 V
  go_wp2
  obtain⟨t0,t1⟩:=(R9.put2 (.int .i64 (lvR (fin k op ⟨#[]⟩ [x] j))) (.bool (tgR (fin k op ⟨#[]⟩ [x] j)))).c2
  exact bodyPost_ret (v:= .agg #[.int .i64 (lvR (fin k op ⟨#[]⟩ [x] j)),.bool (tgR (fin k op ⟨#[]⟩ [x] j))]) (by simp[results,Tryz.results238,go_sem,t0,t1]) rfl (F2.res H9.out _ _)
set_option maxHeartbeats 3200000 in
theorem pre_any(hE:CallE w0 a cap l E i0)(hOk:∀p i,i≤l.length→Ok M l i (E p i))(c:Int)(s0:ByteArray)(hs0:s0=⟨#[]⟩)(h0:i0≤i+1)(zb:List Nd)(u:Value)(q:Nat)(p:Ps)(w:World)(hi:i<l.length)(hl:l.length≤50000)(hc:tk.Lies w0.heap.size w0 a l)(hz:z.length+2*(l.length-i)≤200000)(hst:St w0 a l.length cap i v z r w)(hq:q<w.heap.size)(hrw:Rw w0.heap.size q u (G2 zb.length []++zs 1) v z r w)(hzb:z.map (·.1)=zb++G1 zb.length []):
  Calls Tryz.prog 239 #[.pointer (some ⟨w0.heap.size,0,none⟩),.agg #[.int .i64 9,.int .i64 c,.string s0,.string ⟨#[]⟩,u],.agg #[.int .i64 p.l,.bool p.d,.bool p.i,.bool p.g,.bool p.s]] w (Res w0 a l.length cap zb (Xq w0.heap.size q) v z r w (if kd l (i+1)=6∨kd l (i+1)=68 then pfx E 9 c p i else .bad (i+1))):=by
 subst hs0
 obtain⟨W,hW⟩:∃W,W=((w.alloc (.cells #[.int .i64 9,.int .i64 c,.string ⟨#[]⟩,.string ⟨#[]⟩,u] 33)).alloc (.cells #[.int .i64 p.l,.bool p.d,.bool p.i,.bool p.g,.bool p.s] 44)).alloc (.cells #[.int .i64 0,.bool false] 82):=⟨_,rfl⟩
 have hB:Below w.heap.size w W:=by rw[hW];exact(((Below.refl _ _).alloc (Nat.le_refl _) _).alloc (by simp) _).alloc (by simp;omega) _
 have hN:Bk w.heap.size #[.int .i64 9,.int .i64 c,.string ⟨#[]⟩,.string ⟨#[]⟩,u] 33 W:=by rw[hW];exact((Bk.new _ _ _).alloc _).alloc _
 have hP:Bk (w.heap.size+1) #[.int .i64 p.l,.bool p.d,.bool p.i,.bool p.g,.bool p.s] 44 W:=by
  rw[hW]
  have:=(Bk.new (w.alloc (.cells #[.int .i64 9,.int .i64 c,.string ⟨#[]⟩,.string ⟨#[]⟩,u] 33)) #[.int .i64 p.l,.bool p.d,.bool p.i,.bool p.g,.bool p.s] 44).alloc (.cells #[.int .i64 0,.bool false] 82)
  simpa using this
 have hR:Bk (w.heap.size+1+1) #[.int .i64 0,.bool false] 82 W:=by
  rw[hW]
  have:=Bk.new ((w.alloc (.cells #[.int .i64 9,.int .i64 c,.string ⟨#[]⟩,.string ⟨#[]⟩,u] 33)).alloc (.cells #[.int .i64 p.l,.bool p.d,.bool p.i,.bool p.g,.bool p.s] 44)) #[.int .i64 0,.bool false] 82
  simpa using this
 have F0:=hid (Fx.start hst (xq_lt hst.lt hq) hN hP hR hB)
 have o:=hid (hrw.quiet hB)
 have HQ:=hid hq
 have HLT:=hid hst.lt
 have B:=hid hB
 have HZB:=hid hzb
 have HC:=hid hc
 have HL:=hid hl
 have HI:=hid hi
 have HZ:=hid hz
 have hXb:Xq w0.heap.size q w0.heap.size:=Or.inl rfl
 have HXB:=hid hXb
 have hib:i≤50000:=by omega
 obtain⟨c0,c1,c2⟩:=F0.st.c
 have f1:=F0.st.f 1
 obtain⟨n0,n1,n2,n3,n4⟩:=F0.nb.bk.c5
 obtain⟨p0,p1,p2,p3,p4⟩:=F0.pb.bk.c5
 obtain⟨r0,r1⟩:=F0.rb.bk.c2
 have g0:=F0.rb.bk.f 0
 have g1:=F0.rb.bk.f 1
 have HFO:=hid (follower_any W F0.st hc (by omega) (Nat.le_of_lt hi))
 obtain⟨y,hy⟩:∃y,kd l (i+1)=y:=⟨_,rfl⟩
 rw[hy]at HFO⊢
 by_cases hyy:y=6∨y=68
 ·rw[if_pos hyy]
  have HPF:=hid (fun W2 s2 x j=>prefixed_any (v:=v) (z:=z) (r:=r) (cap:=cap) (i:=i) hE hOk 9 c ⟨#[]⟩ rfl h0 zb u q p W2 hi hl hc hz s2 x j hzb)
  clear hy hE hOk h0
  clear hst hB hrw hzb hz hi hl hc hq hN hP hR hXb
  rcases hyy with rfl|rfl
  all_goals
   rw[hW]at c0 c1 c2 f1 n0 n1 n2 n3 n4 p0 p1 p2 p3 p4 r0 r1 g0 g1
   go_enter Tryz.func239,Tryz.ntmps239
   go_wp2_with fail
   rw[←hW]
   clear c0 c1 c2 f1 n0 n1 n2 n3 n4 p0 p1 p2 p3 p4 r0 r1 g0 g1 hW
   refine HFO.mono ?_
   rintro e w1 ⟨rfl,b1⟩
   have F1:=hid (F0.quiet b1)
   have X1:=hid (o.quiet b1)
   clear b1
   obtain⟨c0,c1,c2⟩:=F1.st.c
   have f1:=F1.st.f 1
   obtain⟨n0,n1,n2,n3,n4⟩:=F1.nb.bk.c5
   obtain⟨p0,p1,p2,p3,p4⟩:=F1.pb.bk.c5
   obtain⟨r0,r1⟩:=F1.rb.bk.c2
   have g0:=F1.rb.bk.f 0
   have g1:=F1.rb.bk.f 1
   go_wp2_with fail
   clear c0 c1 c2 f1 n0 n1 n2 n3 n4 p0 p1 p2 p3 p4 r0 r1 g0 g1
   refine(HPF.out w1 F1.st (Nat.lt_of_lt_of_le HQ.out F1.tot.g.size) X1.out).mono ?_
   rintro e w9 h9
   obtain⟨rfl,m⟩:=id h9
   have H9:=hid h9
   have R9:=hid (F1.rbk h9)
   obtain⟨r0,r1⟩:=R9.c2
   have g0:=R9.f 0
   have g1:=R9.f 1
   clear h9 m
   go_wp2
   obtain⟨t0,t1⟩:=(R9.put2 (.int .i64 (lvR (pfx E 9 c p i))) (.bool (tgR (pfx E 9 c p i)))).c2
   exact bodyPost_ret (v:= .agg #[.int .i64 (lvR (pfx E 9 c p i)),.bool (tgR (pfx E 9 c p i))]) (by simp[results,Tryz.results239,go_sem,t0,t1]) rfl (F1.res H9.out _ _)
 ·rw[if_neg hyy]
  obtain⟨q1,q2⟩:=ne_facts (show¬y=6 from fun h=>hyy (.inl h))
  obtain⟨q3,q4⟩:=ne_facts (show¬y=68 from fun h=>hyy (.inr h))
  clear hy hE hOk h0 hyy
  clear hst hB hrw hzb hz hi hl hc hq hN hP hR hXb
  rw[hW]at c0 c1 c2 f1 n0 n1 n2 n3 n4 p0 p1 p2 p3 p4 r0 r1 g0 g1
  go_enter Tryz.func239,Tryz.ntmps239
  go_wp2_with fail
  rw[←hW]
  clear c0 c1 c2 f1 n0 n1 n2 n3 n4 p0 p1 p2 p3 p4 r0 r1 g0 g1 hW
  refine HFO.mono ?_
  rintro e w1 ⟨rfl,b1⟩
  have F1:=hid (F0.quiet b1)
  have F2:=hid (F1.at HXB.out)
  clear b1
  obtain⟨c0,c1,c2⟩:=F1.st.c
  have f1:=F1.st.f 1
  obtain⟨n0,n1,n2,n3,n4⟩:=F1.nb.bk.c5
  obtain⟨p0,p1,p2,p3,p4⟩:=F1.pb.bk.c5
  obtain⟨r0,r1⟩:=F1.rb.bk.c2
  have g0:=F1.rb.bk.f 0
  have g1:=F1.rb.bk.f 1
  obtain⟨D,N,F⟩:=F2.st.c
  have O:=F2.st.f 1
  obtain⟨G,A,U,H,I⟩:=F2.nb.bk.c5
  obtain⟨Z,Q,K,J,C⟩:=F2.pb.bk.c5
  obtain⟨T,S⟩:=F2.rb.bk.c2
  have P:=F2.rb.bk.f 0
  have V:=F2.rb.bk.f 1
  go_wp2
  obtain⟨t0,t1⟩:=(F2.rb.bk.put2 (.int .i64 0) (.bool false)).c2
  exact bodyPost_ret (v:= .agg #[.int .i64 0,.bool false]) (by simp[results,Tryz.results239,go_sem,t0,t1]) rfl (F2.bad _ _ rfl)
set_option maxHeartbeats 3200000 in
theorem binary_any(hE:CallE w0 a cap l E i0)(hOk:∀p i,i≤l.length→Ok M l i (E p i))(k op:Int)(s0:ByteArray)(hs0:s0=⟨#[]⟩)(t:List Nd)(h0:i0≤i+1)(zb:List Nd)(u:Value)(q:Nat)(p:Ps)(w:World)(hi:i<l.length)(hl:l.length≤50000)(hc:tk.Lies w0.heap.size w0 a l)(hz:z.length+2*(l.length-i)≤200000)(hst:St w0 a l.length cap i v z r w)(hq:q<w.heap.size)(hrw:Rw w0.heap.size q u (G2 zb.length [t]++zs 1) v z r w)(hzb:z.map (·.1)=zb++G1 zb.length [t]):
  Calls Tryz.prog 157 #[.pointer (some ⟨w0.heap.size,0,none⟩),.agg #[.int .i64 k,.int .i64 op,.string s0,.string ⟨#[]⟩,u],.agg #[.int .i64 p.l,.bool p.d,.bool p.i,.bool p.g,.bool p.s]] w (Res w0 a l.length cap zb (Xq w0.heap.size q) v z r w (rd2 E k op p t (behind l op i))):=by
 subst hs0
 obtain⟨W,hW⟩:∃W,W=((w.alloc (.cells #[.int .i64 k,.int .i64 op,.string ⟨#[]⟩,.string ⟨#[]⟩,u] 33)).alloc (.cells #[.int .i64 p.l,.bool p.d,.bool p.i,.bool p.g,.bool p.s] 44)).alloc (.cells #[.int .i64 0,.bool false] 82):=⟨_,rfl⟩
 have hB:Below w.heap.size w W:=by rw[hW];exact(((Below.refl _ _).alloc (Nat.le_refl _) _).alloc (by simp) _).alloc (by simp;omega) _
 have hN:Bk w.heap.size #[.int .i64 k,.int .i64 op,.string ⟨#[]⟩,.string ⟨#[]⟩,u] 33 W:=by rw[hW];exact((Bk.new _ _ _).alloc _).alloc _
 have hP:Bk (w.heap.size+1) #[.int .i64 p.l,.bool p.d,.bool p.i,.bool p.g,.bool p.s] 44 W:=by
  rw[hW]
  have:=(Bk.new (w.alloc (.cells #[.int .i64 k,.int .i64 op,.string ⟨#[]⟩,.string ⟨#[]⟩,u] 33)) #[.int .i64 p.l,.bool p.d,.bool p.i,.bool p.g,.bool p.s] 44).alloc (.cells #[.int .i64 0,.bool false] 82)
  simpa using this
 have hR:Bk (w.heap.size+1+1) #[.int .i64 0,.bool false] 82 W:=by
  rw[hW]
  have:=Bk.new ((w.alloc (.cells #[.int .i64 k,.int .i64 op,.string ⟨#[]⟩,.string ⟨#[]⟩,u] 33)).alloc (.cells #[.int .i64 p.l,.bool p.d,.bool p.i,.bool p.g,.bool p.s] 44)) #[.int .i64 0,.bool false] 82
  simpa using this
 have F0:=hid (Fx.start hst (xq_lt hst.lt hq) hN hP hR hB)
 have V:=hid (hrw.quiet hB)
 have HQ:=hid hq
 have HLT:=hid hst.lt
 have aa:=hid hB
 have HZB:=hid hzb
 have HC:=hid hc
 have HL:=hid hl
 have HI:=hid hi
 have HZ:=hid hz
 have hXb:Xq w0.heap.size q w0.heap.size:=Or.inl rfl
 have HXB:=hid hXb
 have hib:i≤50000:=by omega
 have F1:=hid (F0.at HXB.out)
 have X1:=hid (V.at 1 (.int .i64 ((i:Int)+1)))
 obtain⟨c0,c1,c2⟩:=F0.st.c
 have f1:=F0.st.f 1
 obtain⟨n0,n1,n2,n3,n4⟩:=F0.nb.bk.c5
 obtain⟨p0,p1,p2,p3,p4⟩:=F0.pb.bk.c5
 obtain⟨r0,r1⟩:=F0.rb.bk.c2
 have g0:=F0.rb.bk.f 0
 have g1:=F0.rb.bk.f 1
 obtain⟨y,H,A⟩:=F1.st.c
 have I:=F1.st.f 1
 obtain⟨B,o,P,C,D⟩:=F1.nb.bk.c5
 obtain⟨S,K,G,F,x⟩:=F1.pb.bk.c5
 obtain⟨O,N⟩:=F1.rb.bk.c2
 have J:=F1.rb.bk.f 0
 have Q:=F1.rb.bk.f 1
 have HCAT:=hid (fun j W2 hij hj s2 Z U=>cat_any (v:=v) (z:=z) (r:=r) (cap:=cap) (i:=j) hE hOk k op ⟨#[]⟩ rfl t (Nat.le_trans h0 hij) zb u q p W2 hj hl hc (by omega) s2 Z U hzb)
 have HSK:=hid (fun W2 s2=>skip_any (v:=v) (z:=z) (r:=r) (cap:=cap) (i:=i+1) W2 s2 hc (by omega) hi)
 have HSL:=hid (sk_le (l:=l) (i:=i+1) hi)
 by_cases hop:op=44∨op=45
 ·rw[show behind l op i=sk l (i+1)from if_pos hop]
  clear hE hOk h0
  clear hst hB hrw hzb hz hi hl hc hq hN hP hR hXb
  rcases hop with rfl|rfl
  ·rw[hW]at c0 c1 c2 f1 n0 n1 n2 n3 n4 p0 p1 p2 p3 p4 r0 r1 g0 g1 y H A I B o P C D S K G F x O N J Q
   go_enter Tryz.func157,Tryz.ntmps157
   go_wp2_with fail
   rw[←hW]
   clear c0 c1 c2 f1 n0 n1 n2 n3 n4 p0 p1 p2 p3 p4 r0 r1 g0 g1 y H A I B o P C D S K G F x O N J Q hW
   refine(HSK.out _ F1.st).mono ?_
   rintro e w1 ⟨rfl,s1,m⟩
   have F2:=hid (F1.take HXB.out s1 m)
   have X2:=hid (X1.take m)
   clear s1 m
   obtain⟨c0,c1,c2⟩:=F2.st.c
   have f1:=F2.st.f 1
   obtain⟨n0,n1,n2,n3,n4⟩:=F2.nb.bk.c5
   obtain⟨p0,p1,p2,p3,p4⟩:=F2.pb.bk.c5
   obtain⟨r0,r1⟩:=F2.rb.bk.c2
   have g0:=F2.rb.bk.f 0
   have g1:=F2.rb.bk.f 1
   go_wp2_with fail
   clear c0 c1 c2 f1 n0 n1 n2 n3 n4 p0 p1 p2 p3 p4 r0 r1 g0 g1
   refine(HCAT.out _ w1 HSL.out.1 HSL.out.2 F2.st (Nat.lt_of_lt_of_le HQ.out F2.tot.g.size) X2.out).mono ?_
   rintro e w9 h9
   obtain⟨rfl,T⟩:=id h9
   have H9:=hid h9
   have R9:=hid (F2.rbk h9)
   obtain⟨r0,r1⟩:=R9.c2
   have g0:=R9.f 0
   have g1:=R9.f 1
   clear h9 T
   go_wp2
   obtain⟨t0,t1⟩:=(R9.put2 (.int .i64 (lvR (rd2 E k 44 p t (sk l (i+1))))) (.bool (tgR (rd2 E k 44 p t (sk l (i+1)))))).c2
   exact bodyPost_ret (v:= .agg #[.int .i64 (lvR (rd2 E k 44 p t (sk l (i+1)))),.bool (tgR (rd2 E k 44 p t (sk l (i+1))))]) (by simp[results,Tryz.results157,go_sem,t0,t1]) rfl (F2.res H9.out _ _)
  ·rw[hW]at c0 c1 c2 f1 n0 n1 n2 n3 n4 p0 p1 p2 p3 p4 r0 r1 g0 g1 y H A I B o P C D S K G F x O N J Q
   go_enter Tryz.func157,Tryz.ntmps157
   go_wp2_with fail
   rw[←hW]
   clear c0 c1 c2 f1 n0 n1 n2 n3 n4 p0 p1 p2 p3 p4 r0 r1 g0 g1 y H A I B o P C D S K G F x O N J Q hW
   refine(HSK.out _ F1.st).mono ?_
   rintro e w1 ⟨rfl,s1,m⟩
   have F2:=hid (F1.take HXB.out s1 m)
   have X2:=hid (X1.take m)
   clear s1 m
   obtain⟨c0,c1,c2⟩:=F2.st.c
   have f1:=F2.st.f 1
   obtain⟨n0,n1,n2,n3,n4⟩:=F2.nb.bk.c5
   obtain⟨p0,p1,p2,p3,p4⟩:=F2.pb.bk.c5
   obtain⟨r0,r1⟩:=F2.rb.bk.c2
   have g0:=F2.rb.bk.f 0
   have g1:=F2.rb.bk.f 1
   go_wp2_with fail
   clear c0 c1 c2 f1 n0 n1 n2 n3 n4 p0 p1 p2 p3 p4 r0 r1 g0 g1
   refine(HCAT.out _ w1 HSL.out.1 HSL.out.2 F2.st (Nat.lt_of_lt_of_le HQ.out F2.tot.g.size) X2.out).mono ?_
   rintro e w9 h9
   obtain⟨rfl,T⟩:=id h9
   have H9:=hid h9
   have R9:=hid (F2.rbk h9)
   obtain⟨r0,r1⟩:=R9.c2
   have g0:=R9.f 0
   have g1:=R9.f 1
   clear h9 T
   go_wp2
   obtain⟨t0,t1⟩:=(R9.put2 (.int .i64 (lvR (rd2 E k 45 p t (sk l (i+1))))) (.bool (tgR (rd2 E k 45 p t (sk l (i+1)))))).c2
   exact bodyPost_ret (v:= .agg #[.int .i64 (lvR (rd2 E k 45 p t (sk l (i+1)))),.bool (tgR (rd2 E k 45 p t (sk l (i+1))))]) (by simp[results,Tryz.results157,go_sem,t0,t1]) rfl (F2.res H9.out _ _)
 ·rw[show behind l op i=i+1 from if_neg hop]
  obtain⟨q1,q2⟩:=ne_facts (show¬op=44 from fun h=>hop (.inl h))
  obtain⟨q3,q4⟩:=ne_facts (show¬op=45 from fun h=>hop (.inr h))
  clear hE hOk h0 hop
  clear hst hB hrw hzb hz hi hl hc hq hN hP hR hXb
  rw[hW]at c0 c1 c2 f1 n0 n1 n2 n3 n4 p0 p1 p2 p3 p4 r0 r1 g0 g1 y H A I B o P C D S K G F x O N J Q
  go_enter Tryz.func157,Tryz.ntmps157
  go_wp2_with fail
  rw[←hW]
  clear c0 c1 c2 f1 n0 n1 n2 n3 n4 p0 p1 p2 p3 p4 r0 r1 g0 g1 y H A I B o P C D S K G F x O N J Q hW
  refine(HCAT.out _ _ (Nat.le_refl _) HI.out F1.st (Nat.lt_of_lt_of_le HQ.out F1.tot.g.size) X1.out).mono ?_
  rintro e w9 h9
  obtain⟨rfl,T⟩:=id h9
  have H9:=hid h9
  have R9:=hid (F1.rbk h9)
  obtain⟨r0,r1⟩:=R9.c2
  have g0:=R9.f 0
  have g1:=R9.f 1
  clear h9 T
  go_wp2
  obtain⟨t0,t1⟩:=(R9.put2 (.int .i64 (lvR (rd2 E k op p t (i+1)))) (.bool (tgR (rd2 E k op p t (i+1))))).c2
  exact bodyPost_ret (v:= .agg #[.int .i64 (lvR (rd2 E k op p t (i+1))),.bool (tgR (rd2 E k op p t (i+1)))]) (by simp[results,Tryz.results157,go_sem,t0,t1]) rfl (F1.res H9.out _ _)
set_option maxHeartbeats 3200000 in
theorem cond_any(hE:CallE w0 a cap l E i0)(hOk:∀p i,i≤l.length→Ok M l i (E p i))(s0:ByteArray)(hs0:s0=⟨#[]⟩)(t:List Nd)(h0:i0≤i+1)(zb:List Nd)(u:Value)(q:Nat)(p:Ps)(w:World)(hi:i<l.length)(hl:l.length≤50000)(hc:tk.Lies w0.heap.size w0 a l)(hz:z.length+2*(l.length-i)≤200000)(hst:St w0 a l.length cap i v z r w)(hq:q<w.heap.size)(hrw:Rw w0.heap.size q u (G2 zb.length [t]++zs 2) v z r w)(hzb:z.map (·.1)=zb++G1 zb.length [t]):
  Calls Tryz.prog 159 #[.pointer (some ⟨w0.heap.size,0,none⟩),.agg #[.int .i64 14,.int .i64 0,.string s0,.string ⟨#[]⟩,u],.agg #[.int .i64 p.l,.bool p.d,.bool p.i,.bool p.g,.bool p.s]] w (Res w0 a l.length cap zb (Xq w0.heap.size q) v z r w (pe.cond E l p t i)):=by
 subst hs0
 obtain⟨W,hW⟩:∃W,W=((w.alloc (.cells #[.int .i64 14,.int .i64 0,.string ⟨#[]⟩,.string ⟨#[]⟩,u] 33)).alloc (.cells #[.int .i64 p.l,.bool p.d,.bool p.i,.bool p.g,.bool p.s] 44)).alloc (.cells #[.int .i64 0,.bool false] 82):=⟨_,rfl⟩
 have hB:Below w.heap.size w W:=by rw[hW];exact(((Below.refl _ _).alloc (Nat.le_refl _) _).alloc (by simp) _).alloc (by simp;omega) _
 have hN:Bk w.heap.size #[.int .i64 14,.int .i64 0,.string ⟨#[]⟩,.string ⟨#[]⟩,u] 33 W:=by rw[hW];exact((Bk.new _ _ _).alloc _).alloc _
 have hP:Bk (w.heap.size+1) #[.int .i64 p.l,.bool p.d,.bool p.i,.bool p.g,.bool p.s] 44 W:=by
  rw[hW]
  have:=(Bk.new (w.alloc (.cells #[.int .i64 14,.int .i64 0,.string ⟨#[]⟩,.string ⟨#[]⟩,u] 33)) #[.int .i64 p.l,.bool p.d,.bool p.i,.bool p.g,.bool p.s] 44).alloc (.cells #[.int .i64 0,.bool false] 82)
  simpa using this
 have hR:Bk (w.heap.size+1+1) #[.int .i64 0,.bool false] 82 W:=by
  rw[hW]
  have:=Bk.new ((w.alloc (.cells #[.int .i64 14,.int .i64 0,.string ⟨#[]⟩,.string ⟨#[]⟩,u] 33)).alloc (.cells #[.int .i64 p.l,.bool p.d,.bool p.i,.bool p.g,.bool p.s] 44)) #[.int .i64 0,.bool false] 82
  simpa using this
 have F0:=hid (Fx.start hst (xq_lt hst.lt hq) hN hP hR hB)
 have al:=hid (hrw.quiet hB)
 have HQ:=hid hq
 have HLT:=hid hst.lt
 have an:=hid hB
 have HZB:=hid hzb
 have HC:=hid hc
 have HL:=hid hl
 have HI:=hid hi
 have HZ:=hid hz
 have hXb:Xq w0.heap.size q w0.heap.size:=Or.inl rfl
 have HXB:=hid hXb
 have hib:i≤50000:=by omega
 have F1:=hid (F0.at HXB.out)
 have X1:=hid (al.at 1 (.int .i64 ((i:Int)+1)))
 obtain⟨c0,c1,c2⟩:=F0.st.c
 have f1:=F0.st.f 1
 obtain⟨n0,n1,n2,n3,n4⟩:=F0.nb.bk.c5
 obtain⟨p0,p1,p2,p3,p4⟩:=F0.pb.bk.c5
 obtain⟨r0,r1⟩:=F0.rb.bk.c2
 have g0:=F0.rb.bk.f 0
 have g1:=F0.rb.bk.f 1
 obtain⟨J,U,K⟩:=F1.st.c
 have V:=F1.st.f 1
 obtain⟨N,G,ad,O,P⟩:=F1.nb.bk.c5
 obtain⟨af,aa,T,S,H⟩:=F1.pb.bk.c5
 obtain⟨ac,ab⟩:=F1.rb.bk.c2
 have Z:=F1.rb.bk.f 0
 have ae:=F1.rb.bk.f 1
 have D:z.length+2*(l.length-(i+1))≤200000:=by omega
 have hkid:Calls Tryz.prog 242 #[.pointer (some ⟨w0.heap.size,0,none⟩),.agg #[.int .i64 14,.int .i64 0,.string ⟨#[]⟩,.string ⟨#[]⟩,u],.int .i64 1,.agg #[.int .i64 p.l,.bool p.d,.bool p.i,.bool p.g,.bool p.s]] (W.setCell ⟨w0.heap.size,1,none⟩ (.int .i64 ((i:Int)+1))) (KRes w0 a l.length cap zb [t] 1 u q v z r (W.setCell ⟨w0.heap.size,1,none⟩ (.int .i64 ((i:Int)+1))) (E (kq 14 0 3 1 p) (i+1))):=kid_any hE hOk 14 0 ⟨#[]⟩ 1 zb [t] u q p (W.setCell ⟨w0.heap.size,1,none⟩ (.int .i64 ((i:Int)+1))) h0 hi hl (by simp) D F1.st X1.out hzb
 have HOK:=hid (hOk (kq 14 0 3 1 p) (i+1) hi)
 have am:=hid D
 have HK:=hid hkid
 have HT:=hid (fun j v2 z2 r2 W2 s2 (hjl:j≤l.length)=>take_any (v:=v2) (z:=z2) (r:=r2) (cap:=cap) (i:=j) 66 W2 s2 hc (by omega) hjl)
 have C:=hid (show∀x j,i+1≤j→j<l.length→∀v2 z2 r2 W2,z2.length+2*(l.length-(j+1))≤200000→St w0 a l.length cap (j+1) v2 z2 r2 W2→Rw w0.heap.size q u (G2 zb.length [t,x]++zs 1) v2 z2 r2 W2→z2.map (·.1)=zb++G1 zb.length [t,x]→Calls Tryz.prog 242 #[.pointer (some ⟨w0.heap.size,0,none⟩),.agg #[.int .i64 14,.int .i64 0,.string ⟨#[]⟩,.string ⟨#[]⟩,u],.int .i64 2,.agg #[.int .i64 p.l,.bool p.d,.bool p.i,.bool p.g,.bool p.s]] W2 (KRes w0 a l.length cap zb [t,x] 0 u q v2 z2 r2 W2 (E (kq 14 0 3 2 p) (j+1)))from fun x j hij o=>(fun h=>h) (fun v2 z2 r2 W2 F s2 A aj=>kid_any (v:=v2) (z:=z2) (r:=r2) (cap:=cap) (i:=j+1) hE hOk 14 0 ⟨#[]⟩ 0 zb [t,x] u q p W2 (by omega) o hl (by simp) F s2 A aj))
 have B:=hid (fun j (o:j<l.length)=>hOk (kq 14 0 3 2 p) (j+1) o)
 obtain⟨RR,hRR⟩:∃RR,pe.cond E l p t i=RR:=⟨_,rfl⟩
 rw[hRR]
 have HD:=hid (show pe.cond E l p t i=RR from hRR)
 clear hkid hE hOk h0 D hRR
 clear hst hB hrw hzb hz hi hl hc hq hN hP hR hXb
 rw[hW]at c0 c1 c2 f1 n0 n1 n2 n3 n4 p0 p1 p2 p3 p4 r0 r1 g0 g1 J U K V N G ad O P af aa T S H ac ab Z ae
 go_enter Tryz.func159,Tryz.ntmps159
 go_wp2_with fail
 rw[←hW]
 clear c0 c1 c2 f1 n0 n1 n2 n3 n4 p0 p1 p2 p3 p4 r0 r1 g0 g1 J U K V N G ad O P af aa T S H ac ab Z ae hW
 refine HK.mono ?_
 rintro e w2 ⟨rfl,v2,z2,r2,s2,e2,m2⟩
 have F2:=hid (F1.go s2 e2)
 have hd:=HD.out
 unfold pe.cond at hd
 clear s2 e2 HK HD
 cases hr:E (kq 14 0 3 1 p) (i+1)with
 |bad j=>
  rw[hr]at F2 hd
  simp only[atR]at F2
  simp only at hd
  subst hd
  clear m2 hr
  simp only[okR]
  obtain⟨r0,r1⟩:=F2.rb.bk.c2
  have g0:=F2.rb.bk.f 0
  have g1:=F2.rb.bk.f 1
  go_wp2
  obtain⟨t0,t1⟩:=(F2.rb.bk.put2 (.int .i64 0) (.bool false)).c2
  exact bodyPost_ret (v:= .agg #[.int .i64 0,.bool false]) (by simp[results,Tryz.results159,go_sem,t0,t1]) rfl (F2.bad _ _ rfl)
 |ok lv tg x j=>
  rw[hr]at F2 hd m2 HOK
  simp only[atR]at F2
  simp only at hd
  obtain⟨m2,x2⟩:=m2 _ _ _ _ rfl
  have hij:=HOK.out.1
  have hjl:=HOK.out.2.1
  have HT:=hid (HT.out j v2 z2 r2 w2 F2.st hjl)
  simp only[okR]
  by_cases h66:kd l j=66
  ·have o:=kd_lt (l:=l) (i:=j) (by omega)
   have C:=hid (C.out x j (Nat.le_of_lt hij) o)
   have B:=hid (B.out j o)
   rw[decide_eq_true h66,show aft l j 66=j+1 from if_pos h66]at HT
   rw[if_pos h66]at hd
   have F:=kres_len HZB.out m2 HOK.out am.out
   have Q:=hid (show z2.length+2*(l.length-(j+1))≤200000 by omega)
   have I:=hid (show z2.map (·.1)=zb++G1 zb.length [t,x]from m2)
   have X2:=hid (show Rw w0.heap.size q u (G2 zb.length [t,x]++zs 1) v2 z2 r2 w2 from x2)
   have HD:=hid hd
   have HJ:=hid o
   clear m2 x2 F hr h66 hij hjl o hd
   go_wp2_with fail
   refine HT.mono ?_
   rintro e w3 ⟨rfl,s3,g3⟩
   have F3:=hid (F2.take HXB.out s3 g3)
   have X3:=hid (X2.take g3)
   clear s3 g3
   obtain⟨c0,c1,c2⟩:=F3.st.c
   have f1:=F3.st.f 1
   obtain⟨n0,n1,n2,n3,n4⟩:=F3.nb.bk.c5
   obtain⟨p0,p1,p2,p3,p4⟩:=F3.pb.bk.c5
   obtain⟨r0,r1⟩:=F3.rb.bk.c2
   have g0:=F3.rb.bk.f 0
   have g1:=F3.rb.bk.f 1
   go_wp2_with fail
   clear c0 c1 c2 f1 n0 n1 n2 n3 n4 p0 p1 p2 p3 p4 r0 r1 g0 g1
   refine(C.out v2 z2 r2 w3 Q.out F3.st X3.out I.out).mono ?_
   rintro e w4 ⟨rfl,v4,z4,r4,s4,e4,m4⟩
   have F4:=hid (F3.go s4 e4)
   have hd:=HD.out
   clear s4 e4 C HD
   cases A:E (kq 14 0 3 2 p) (j+1)with
   |bad m=>
    rw[A]at F4 hd
    simp only[atR]at F4
    simp only at hd
    subst hd
    clear m4 A
    simp only[okR]
    obtain⟨r0,r1⟩:=F4.rb.bk.c2
    have g0:=F4.rb.bk.f 0
    have g1:=F4.rb.bk.f 1
    go_wp2
    obtain⟨t0,t1⟩:=(F4.rb.bk.put2 (.int .i64 0) (.bool false)).c2
    exact bodyPost_ret (v:= .agg #[.int .i64 0,.bool false]) (by simp[results,Tryz.results159,go_sem,t0,t1]) rfl (F4.bad _ _ rfl)
   |ok lv' tg' y m=>
    rw[A]at F4 hd m4 B
    simp only[atR]at F4
    simp only at hd
    subst hd
    obtain⟨m4,x4⟩:=m4 _ _ _ _ rfl
    have ak:=kres_len I.out m4 B.out Q.out
    have ah:=hid (show z4.length≤1000000 by omega)
    have ag:=hid (show z4.map (·.1)=zb++G1 zb.length [t,x,y]from m4)
    have X4:=hid (show Rw w0.heap.size q u (G2 zb.length [t,x,y]) v4 z4 r4 w4 by have:=x4;simpa [zs]using this)
    clear m4 x4 ak A
    simp only[okR]
    obtain⟨c0,c1,c2⟩:=F4.st.c
    have f1:=F4.st.f 1
    obtain⟨n0,n1,n2,n3,n4⟩:=F4.nb.bk.c5
    obtain⟨p0,p1,p2,p3,p4⟩:=F4.pb.bk.c5
    obtain⟨r0,r1⟩:=F4.rb.bk.c2
    have g0:=F4.rb.bk.f 0
    have g1:=F4.rb.bk.f 1
    go_wp2_with fail
    clear c0 c1 c2 f1 n0 n1 n2 n3 n4 p0 p1 p2 p3 p4 r0 r1 g0 g1
    refine(addR 14 0 ⟨#[]⟩ zb [t,x,y] u q _ F4.st ah.out X4.out ag.out).mono ?_
    rintro e w9 h9
    obtain⟨rfl,ai⟩:=id h9
    have H9:=hid h9
    have R9:=hid (F4.rbk h9)
    obtain⟨r0,r1⟩:=R9.c2
    have g0:=R9.f 0
    have g1:=R9.f 1
    clear h9 ai
    go_wp2
    obtain⟨t0,t1⟩:=(R9.put2 (.int .i64 (lvR (fin 14 0 ⟨#[]⟩ [t,x,y] m))) (.bool (tgR (fin 14 0 ⟨#[]⟩ [t,x,y] m)))).c2
    exact bodyPost_ret (v:= .agg #[.int .i64 (lvR (fin 14 0 ⟨#[]⟩ [t,x,y] m)),.bool (tgR (fin 14 0 ⟨#[]⟩ [t,x,y] m))]) (by simp[results,Tryz.results159,go_sem,t0,t1]) rfl (F4.res H9.out _ _)
  ·rw[decide_eq_false h66,show aft l j 66=j from if_neg h66]at HT
   rw[if_neg h66]at hd
   subst hd
   clear m2 x2 hr h66 hij hjl
   go_wp2_with fail
   refine HT.mono ?_
   rintro e w3 ⟨rfl,s3,g3⟩
   have F3:=hid (F2.take HXB.out s3 g3)
   clear s3 g3
   obtain⟨r0,r1⟩:=F3.rb.bk.c2
   have g0:=F3.rb.bk.f 0
   have g1:=F3.rb.bk.f 1
   go_wp2
   obtain⟨t0,t1⟩:=(F3.rb.bk.put2 (.int .i64 0) (.bool false)).c2
   exact bodyPost_ret (v:= .agg #[.int .i64 0,.bool false]) (by simp[results,Tryz.results159,go_sem,t0,t1]) rfl (F3.bad _ _ rfl)
end
end Go.Proofs.YtebjmdpkobhcbaaGreatDoor.pr

namespace Go.Proofs.YtebjmdpkobhcbaaGreatDoor.pr
open Lib (hid)
open Go.ChangeShapes Go.WideShapes Go.ChangeAt Go.RowKit
open tk (Tk)
open nd (Nd PT KidV IBlk OwnI shN makeT)
open ps (Ps B5 posOk kidI top)
open pe
set_option linter.unusedVariables false
set_option linter.unusedSimpArgs false
set_option maxRecDepth 20000
theorem step_append_kid{ops:Array Oper}{o:Oper}{a:Act}{w:World}{K:Act→World→Prop}{Q:Exit→Act→World→Prop}{E:Prop}(hgd:o.guard=none)(s x:Operand)
  (ho:o.op= .call {callee:= .builtin .append,args:= #[s,x],argTypes:= #[31,31]}) (B:Nat) (v:Value) (d:List Int) (z:Int) (hs:a.eval s=v)
  (hown:OwnI B v d w) (gz:Nat) (hx:a.eval x= .slice (some ⟨gz,0,none⟩) 1 1) (hz:w.heap[gz]? =some (.cells #[.int .i64 z] 3 (0,0))) (hn:d.length≤1048576) (hB:B≤w.heap.size)
  (h:∀g cap w',OwnI B (.slice (some ⟨g,0,none⟩) (d.length+1) cap) (d++[z]) w'→w.grownBy w' v.ownBlock→(v.ownBlock=some g∨w.heap.size≤g)→K (a.put o.dst (.slice (some ⟨g,0,none⟩) (d.length+1) cap)) w'):
  if Region.wanted o (yielded ops a.tmps)=true then Oper.wp Tryz.prog o a w K Q else E:=by
 obtain⟨i0,hi,m,y,f⟩:=info_parts Go.Proofs.YtebjmdpkobhcbaaGreatDoor.nd.Tryz.infoInt
 refine step_append_lies w hgd s x 31 ho B 3 i0 _ 1 8 Tryz.underlying31 hi m y f rfl (by decide) v d.length (nd.ivals d) hs hown ⟨gz,0,none⟩ 1 1 [.int .i64 z] hx rfl ?_ ?_ (by decide) (by unfold maxLen;omega) (by omega) hB _ rfl ?_
 ·intro j u hj
  rw[show((⟨gz,0,none⟩:Addr).add j)=⟨gz,j,none⟩ by unfold Addr.add;split<;>simp_all]
  rw[cell_of_row _ gz j _ _ _ hz]
  simpa using hj
 ·intro u hu
  simp at hu
  rcases hu with rfl<;>rfl
 ·intro g cap w' hown' hg hor _
  refine h g cap w' ?_ hg (hor.imp id (fun e=>by omega))
  unfold OwnI
  rw[nd.ivals_snoc,List.length_append]
  exact hown'
theorem below_none{w w':World}(h:w.grownBy w' none):Below w.heap.size w w':=⟨h.os,h.tape,h.output,h.size,fun k hk=>h.block k hk (by simp)⟩
theorem St.grown{w0:World}{a:Option Addr}{n cap i:Nat}{v u:Value}{z:List (Nd×Value)}{r:Nat→Nat}{w w':World}(h:St w0 a n cap i v z r w)(hg:w.grownBy w' u.ownBlock)(hq:∀q,u.ownBlock=some q→w0.heap.size<q∧v.ownBlock≠some q∧∀j,j<z.length→r j≠q):St w0 a n cap i v z r w':=by
 cases hu:u.ownBlock with
 |none=>rw[hu]at hg;exact h.keep (below_none hg)
 |some q=>
  rw[hu]at hg
  obtain⟨h1,h2,h3⟩:=hq q hu
  refine⟨h.bel.grown hg h.bel.size (fun k hk=>by injection hk with hk;omega),(hg.block _ h.lt (by simp;omega)).trans h.box,h.own.kept hg h2 h3,h.ge⟩
theorem Rw.own{b q:Nat}{u:Value}{ks:List Int}{v:Value}{z:List (Nd×Value)}{r:Nat→Nat}{w:World}(h:Rw b q u ks v z r w):OwnI (b+1) u ks w:=by
 rcases h with ⟨rfl,rfl⟩|⟨h,-⟩
 ·exact OwnI.nil _ _
 ·exact h.own
theorem Rw.blk{b q:Nat}{u:Value}{ks:List Int}{v:Value}{z:List (Nd×Value)}{r:Nat→Nat}{w:World}(h:Rw b q u ks v z r w):∀g,u.ownBlock=some g→g=q∧q<w.heap.size∧b<g∧v.ownBlock≠some g∧∀j,j<z.length→r j≠g:=by
 intro g hg
 rcases h with ⟨rfl,rfl⟩|⟨h1,h2,h3,h4,h5⟩
 ·cases hg
 ·rcases h1 with ⟨rfl,-⟩|⟨c,rfl,-⟩
  ·cases hg
  ·have e:q=g:=by simpa [Value.ownBlock]using hg
   subst e
   exact⟨rfl,h2,h5,h4,h3⟩
theorem Rw.mk{b g n c:Nat}{ks:List Int}{v:Value}{z:List (Nd×Value)}{r:Nat→Nat}{w:World}(h:OwnI (b+1) (.slice (some ⟨g,0,none⟩) n c) ks w)(h3:∀j,j<z.length→r j≠g)(h4:v.ownBlock≠some g):Rw b g (.slice (some ⟨g,0,none⟩) n c) ks v z r w:=by
 rcases h.blkM with ⟨hh,-⟩|⟨g',c',hv,hB,hb,hm⟩
 ·injection hh with hh _ _;cases hh
 ·injection hv with hv1 hv2 hv3
  injection hv1 with hv1
  injection hv1 with hv1 _ _
  subst hv1;subst hv2;subst hv3
  exact .inr ⟨.inr ⟨c,rfl,hb,hB,hm⟩,hb.lt,h3,h4,hB⟩
theorem els_succ(E:Ps→Nat→R)(l:List Tk)(m g:Nat)(ps:List (List Nd))(i:Nat):els E l m (g+1) ps i=(match E top i with| .bad j=> .bad j| .ok _ _ t j=>if ps.length+1=m∨¬kd l j=36 then .ok (ps++[t]) j else els E l m g (ps++[t]) (sk l (j+1))):=rfl
def okP:P→Bool
 | .bad _=>false
 | .ok _ _=>true
def atP:P→Nat
 | .bad j=>j
 | .ok _ j=>j
section
variable {w0:World} {l:List Tk} {a:Option Addr} {cap i:Nat} {v:Value} {z:List (Nd×Value)} {r:Nat→Nat} {E:Ps→Nat→R} {M i0:Nat}
theorem Mb.new{w0:World}{a:Option Addr}{n cap i:Nat}{v:Value}{z:List (Nd×Value)}{r:Nat→Nat}{w W:World}{X:Nat→Prop}{g:Nat}{c:Array Value}{ty:TypeId}(hst:St w0 a n cap i v z r w)(hb:Bk g c ty W)(hg:w.heap.size≤g)(hx:¬X g):Mb X w0.heap.size g c ty v z r W:=
 ⟨hb,hx,Nat.lt_of_lt_of_le hst.lt hg,hst.new hg,fun j hj=>by have:=hst.own.lt j hj;omega⟩
def ERes(w0:World)(a:Option Addr)(n cap:Nat)(zb:List Nd)(gn:Nat)(k op:Int)(s:ByteArray)(v:Value)(z:List (Nd×Value))(r:Nat→Nat)(w:World)(R:P)(e:Ending)(w':World):Prop:=
 e= .returned (.bool (okP R))∧∃v' z' r' u' q',St w0 a n cap (atP R) v' z' r' w'∧Ext (Xq w0.heap.size gn) v z r w v' z' r' w'∧Mb (X0 w0.heap.size) w0.heap.size gn #[.int .i64 k,.int .i64 op,.string s,.string ⟨#[]⟩,u'] 33 v' z' r' w'∧∀ps j,R= .ok ps j→z'.map (·.1)=zb++G1 zb.length ps∧Rw w0.heap.size q' u' (G2 zb.length ps) v' z' r' w'∧w.heap.size≤q'
def RelEl(w0:World)(a:Option Addr)(cap:Nat)(l:List Tk)(E:Ps→Nat→R)(zb:List Nd)(gn:Nat)(k op:Int)(s:ByteArray)(m:Nat)(i:Nat)(v:Value)(z:List (Nd×Value))(r:Nat→Nat)(w:World)(wr:World):Prop:=
 ∃ps j v' z' r' u' q',St w0 a l.length cap j v' z' r' wr∧Ext (Xq w0.heap.size gn) v z r w v' z' r' wr∧Mb (X0 w0.heap.size) w0.heap.size gn #[.int .i64 k,.int .i64 op,.string s,.string ⟨#[]⟩,u'] 33 v' z' r' wr∧z'.map (·.1)=zb++G1 zb.length ps∧Rw w0.heap.size q' u' (G2 zb.length ps) v' z' r' wr∧w.heap.size<q'∧els E l m (m-ps.length) ps j=els E l m m [] i∧ps.length<m∧i≤j∧j≤l.length∧z'.length+2*(l.length-j)≤200000∧Mb (X0 w0.heap.size) w0.heap.size w.heap.size #[.int .i64 1,.bool false,.bool false,.bool false,.bool false] 44 v' z' r' wr
set_option maxHeartbeats 6400000 in
theorem elements_any(hE:CallE w0 a cap l E i0)(hOk:∀p i,i≤l.length→Ok M l i (E p i))(k op:Int)(s:ByteArray)(m:Nat)(zb:List Nd)(gn:Nat)(w:World)(h0:i0≤i)(hi:i≤l.length)(hl:l.length≤50000)(hc:tk.Lies w0.heap.size w0 a l)(hm:0<m)(hm2:m≤6)(hz:z.length+2*(l.length-i)≤200000)(hst:St w0 a l.length cap i v z r w)(hn:Mb (X0 w0.heap.size) w0.heap.size gn #[.int .i64 k,.int .i64 op,.string s,.string ⟨#[]⟩,.slice none 0 0] 33 v z r w)(hzb:z.map (·.1)=zb):
  Calls Tryz.prog 232 #[.pointer (some ⟨w0.heap.size,0,none⟩),.pointer (some ⟨gn,0,none⟩),.agg #[.int .i64 top.l,.bool top.d,.bool top.i,.bool top.g,.bool top.s],.int .i64 (m:Int)] w (ERes w0 a l.length cap zb gn k op s v z r w (els E l m m [] i)):=by
 have HST:=hid hst
 have HN:=hid hn
 have HC:=hid hc
 have HL:=hid hl
 have HZB:=hid (show z.map (·.1)=zb++G1 zb.length [] by rw[hzb,G1_nil,List.append_nil])
 have HZ:=hid hz
 have HI:=hid hi
 have HGN:=hid hn.bk.lt
 have hfl:=fld_l
 have HM:=hid hm
 have F:=hid (show Below w.heap.size w (w.alloc (.cells #[.int .i64 1,.bool false,.bool false,.bool false,.bool false] 44))from(Below.refl _ w).alloc (Nat.le_refl _) _)
 have af:=hid (show Mb (X0 w0.heap.size) w0.heap.size w.heap.size #[.int .i64 1,.bool false,.bool false,.bool false,.bool false] 44 v z r (w.alloc (.cells #[.int .i64 1,.bool false,.bool false,.bool false,.bool false] 44))from Mb.new hst (Bk.new _ _ _) (Nat.le_refl _) (by have:=hst.lt;unfold X0;omega))
 clear hst hn hzb hz hi hc hm
 go_enter Tryz.func232,Tryz.ntmps232
 go_wp2
 go_loopw [8] (fun _ wr=>RelEl w0 a cap l E zb gn k op s m i v z r w wr) (fun _ wr=>l.length-atOf w0.heap.size wr)
 case atStart=>exact⟨[],i,v,z,r,_,w.heap.size+1,HST.keep F.out,Ext.of (Gr.quiet F.out),HN.ext (Ext.of (Gr.quiet F.out)),HZB.out,.inl ⟨G2_nil _,rfl⟩,Nat.lt_succ_self _,rfl,HM.out,Nat.le_refl _,HI.out,HZ.out,af.out⟩
 case round=>
  obtain⟨ps,j,v1,z1,r1,u1,q1,I,W,S,U,Z,A,hels,hpm,hij,hjl,hzl,hpb⟩:=hrel
  have P1:=hid hpb
  obtain⟨p0,p1,p2,p3,p4⟩:=hpb.bk.c5
  clear hpb
  have HAT:=hid (at_of I)
  have HEX:=hid (fun W2 (s2:St w0 a l.length cap j v1 z1 r1 W2)=>hE top j v1 z1 r1 W2 (Nat.le_trans h0 hij) hjl hzl s2)
  have HOK:=hid (hOk top j hjl)
  obtain⟨g,hg⟩:∃g,m-ps.length=g+1:=⟨m-ps.length-1,by omega⟩
  rw[hg]at hels
  rw[els_succ]at hels
  have S1:=hid I
  have E1:=hid W
  have N1:=hid S
  have M1:=hid U
  have X1:=hid Z
  have Q1:=hid A
  have HJL:=hid hjl
  have HZL:=hid hzl
  have HIJ:=hid hij
  have HG:=hid hg
  clear I W S U Z A hjl hzl hij hg
  cases hr:E top j with
  |bad j2=>
   rw[hr]at hels
   simp only at hels
   rw[hr]at HEX
   have HELS:=hid hels
   clear hels hr
   go_wp2_with ((refine(HEX.out _ S1.out).mono ?_;rintro e w3 ⟨rfl,v3,z3,r3,s3,e3,-⟩;simp only[lvR,tgR]))
   simp only[atR]at s3
   go_ret
   rw[←HELS.out]
   have N3:=N1.ext e3
   refine⟨rfl,v3,z3,r3,u1,q1,s3,E1.trans (e3.wide (fun k _ h=> .inl h)),N3,fun ps' j' he=>by cases he⟩
  |ok lv tg t j2=>
   rw[hr]at hels HEX HOK
   simp only at hels
   have hok:=HOK.out
   obtain⟨o1,o2,o3,o4,o5,o6⟩:=hok
   have hlv:(lv==0)=false:=by rw[beq_eq_false_iff_ne];omega
   have ak:(lv !=0)=true:=by simp;omega
   have aj:¬lv=0:=by omega
   have HELS:=hid hels
   have G:=hid o2
   have N:=hid o1
   have ab:=hid o4
   have ag:=hid o5
   clear hels hr o1 o2 o3 o4 o5 o6
   go_wp2_with ((refine(HEX.out _ S1.out).mono ?_;rintro e w3 ⟨rfl,v3,z3,r3,s3,e3,m3⟩;simp only[lvR,tgR]))
   simp only[atR]at s3
   have m3:=m3 _ _ _ _ rfl
   have hzz:z3.length=z1.length+t.length:=by have:=congrArg List.length m3;simpa using this
   have ai:z1.length=zb.length+nd.sumL ps:=by have:=congrArg List.length M1.out;rw[List.length_map,List.length_append,G1_len]at this;exact this
   have M3:=hid (show z3.map (·.1)=zb++G1 zb.length (ps++[t]) by rw[m3,M1.out,G1_snoc,List.append_assoc,List.length_append])
   have HSB:=hid (show zb.length+nd.sumL ps+t.length≤1000000 by have:=HZL.out;have:=ab.out;have:=G.out;omega)
   have Q:0<z3.length:=by have:=ag.out;omega
   have T:=hid (show z3.length+2*(l.length-j2)≤200000 by have:=HZL.out;have:=ab.out;have:=G.out;have:=N.out;omega)
   have hzx:z3.length≤1000000:=by have:=T.out;omega
   have HROOT:=hid (fun W2 (s4:St w0 a l.length cap j2 v3 z3 r3 W2)=>root_any W2 s4 Q hzx)
   have HV:=hid (show((z3.length:Int)-1)=((zb.length+(G1 zb.length (ps++[t])).length:Nat):Int)-1 by
    have:=congrArg List.length M3.out
    rw[List.length_map,List.length_append]at this
    omega)
   obtain⟨ZV,hZV⟩:∃ZV,ZV=((z3.length:Int)-1):=⟨_,rfl⟩
   rw[←hZV]at HROOT HV
   have S3:=hid s3
   have E3:=hid (E1.trans (e3.wide (fun k _ h=>Or.inl h)))
   have N3:=hid (N1.ext e3)
   have P3:=hid (P1.ext e3)
   have X3:=hid (X1.on e3)
   obtain⟨D,hD⟩:∃D,G2 zb.length ps=D:=⟨_,rfl⟩
   have hkl:D.length=ps.length:=by rw[←hD,G2_len]
   have HGS:=hid (show G2 zb.length (ps++[t])=D++[ZV] by rw[G2_snoc _ _ _ HSB.out,←HV.out,hD])
   rw[hD]at X3 X1
   obtain⟨uk,uc,hu⟩:=X1.form
   subst hu
   obtain⟨K,hK⟩:∃K,ps.length=K:=⟨_,rfl⟩
   rw[hK]at hkl
   have HKL:=hid hkl
   have HKP:=hid hK
   rw[hK]at hpm
   have HEL:=hid (show(if K+1=m∨¬kd l j2=36 then P.ok (ps++[t]) j2 else els E l m g (ps++[t]) (sk l (j2+1)))=els E l m m [] i by rw[←HELS.out,hK])
   have hKb:D.length≤6:=by omega
   have HPM:=hid hpm
   have HOW:=hid (show∀w1,Below w3.heap.size w3 w1→OwnI (w0.heap.size+1) (.slice uk D.length uc) D w1 from fun w1 hb=>X3.own.keep hb (Nat.le_refl _))
   have HSW:=hid (show∀w1,Below w3.heap.size w3 w1→∀w4,w1.grownBy w4 (Value.slice uk D.length uc).ownBlock→St w0 a l.length cap j2 v3 z3 r3 w4 from fun w1 hb w4 hg=>(S3.keep hb).grown hg (fun q hq=>by obtain⟨-,-,h3,h4,h5⟩:=X3.blk q hq;exact⟨h3,h4,h5⟩))
   obtain⟨n0,n1,n2,n3,n4⟩:=N3.bk.c5
   have N4:∀z,(w3.alloc z).cell? ⟨gn,4,none⟩=some (.slice uk D.length uc):=fun z=>nd.cell_past z n4
   have HUQ:=hid (show∀g,(Value.slice uk D.length uc).ownBlock=some g→w.heap.size<g from fun g hg=>by obtain⟨h1,-⟩:=X3.blk g hg;rw[h1];exact Q1.out)
   have HPB:=hid (show∀w1,(∀k,k<w3.heap.size→some k≠(Value.slice uk D.length uc).ownBlock→w1.heap[k]? =w3.heap[k]?)→Mb (X0 w0.heap.size) w0.heap.size w.heap.size #[.int .i64 1,.bool false,.bool false,.bool false,.bool false] 44 v3 z3 r3 w1 from fun w1 hk=>⟨(hk w.heap.size P3.bk.lt (fun e=>by
    have h1:=HUQ.out w.heap.size e.symm
    omega)).trans P3.bk,P3.x,P3.b,P3.o,P3.r⟩)
   have HNB:=hid (show∀w1,(∀k,k<w3.heap.size→some k≠(Value.slice uk D.length uc).ownBlock→w1.heap[k]? =w3.heap[k]?)→Mb (X0 w0.heap.size) w0.heap.size gn #[.int .i64 k,.int .i64 op,.string s,.string ⟨#[]⟩,.slice uk D.length uc] 33 v3 z3 r3 w1 from fun w1 hk=>⟨(hk gn N3.bk.lt (fun e=>by
    have h1:=HUQ.out gn e.symm
    have h2:=HGN.out
    omega)).trans N3.bk,N3.x,N3.b,N3.o,N3.r⟩)
   have ad:=hid S3.lt
   clear s3 e3 m3 hzz ai Q hzx hZV hK hkl hD hpm n0 n1 n2 n3 p0 p1 p2 p3 p4
   go_wp2
   go_region_law (first|(refine step_append_kid (by rfl) _ _ (by rfl) (w0.heap.size+1) (.slice uk D.length uc) D ZV (by rfl) (HOW.out _ (by first|exact(Below.refl _ w3).alloc (Nat.le_refl _) _|exact((Below.refl _ w3).alloc (Nat.le_refl _) _).drew|exact((Below.refl _ w3).drew).alloc (Nat.le_refl _) _)) w3.heap.size (by rfl) (by exact heap_alloc_new w3 _) (by omega) (by simp;exact Nat.le_of_lt ad.out) ?_;intro g2 u w4 O B ac;have s4:=HSW.out _ (by first|exact(Below.refl _ w3).alloc (Nat.le_refl _) _|exact((Below.refl _ w3).alloc (Nat.le_refl _) _).drew|exact((Below.refl _ w3).drew).alloc (Nat.le_refl _) _) w4 B;have C:∀k,k<w3.heap.size→some k≠(Value.slice uk D.length uc).ownBlock→w4.heap[k]? =w3.heap[k]? :=fun k hk hn=>(B.block k (by simp;exact Nat.lt_succ_of_lt hk) hn).trans (Below.heap_alloc w3 _ k hk);have ae:w3.heap.size≤w4.heap.size:=Nat.le_trans (by simp) B.size;have J:(Value.slice uk D.length uc).ownBlock=some g2∨w3.heap.size≤g2:=ac.imp id (fun h=>Nat.le_trans (by simp) h);have y:=HNB.out w4 C;have V:=HPB.out w4 C;obtain⟨-,-,-,-,y4⟩:=y.bk.c5;have y5:=y.bk.f 4)|(go_simp;go_at_call 103;refine(HROOT.out _ (by first|exact S3.out|exact S3.drew)).mono ?_;rintro e w9 ⟨rfl,rfl⟩))
   all_goals
    have hgg:w.heap.size<g2:=by
     rcases J with h|h
     ·exact HUQ.out g2 h
     ·exact Nat.lt_of_lt_of_le P3.bk.lt h
    have aa:gn≠g2:=by have:=HGN.out;omega
    have hrow:(∀j,j<z3.length→r3 j≠g2)∧v3.ownBlock≠some g2:=by
     rcases J with h|h
     ·obtain⟨-,-,-,h4,h5⟩:=X3.blk g2 h;exact⟨h5,h4⟩
     ·exact⟨fun j hj=>by have:=S3.own.lt j hj;omega,fun e=>S3.new h e.symm⟩
    have S5:=hid (s4.mset y 4 (.slice (some ⟨g2,0,none⟩) (D.length+1) u))
    have N5:=hid (y.set 4 (.slice (some ⟨g2,0,none⟩) (D.length+1) u))
    have X5:=hid (Rw.mk (v:=v3) (z:=z3) (r:=r3) (nd.OwnI.kept O (nd.grown_one w4 gn 4 (.slice (some ⟨g2,0,none⟩) (D.length+1) u)) (fun e=>aa (by simpa [Value.ownBlock]using e.symm))) hrow.1 hrow.2)
    rw[←HGS.out]at X5
    have E5:=hid (show Ext (Xq w0.heap.size gn) v z r w v3 z3 r3 (w4.setCell ⟨gn,4,none⟩ (.slice (some ⟨g2,0,none⟩) (D.length+1) u))from⟨⟨by have:=E3.g.size;simp;omega,fun k hk hx hn=>by
     rw[heap_setCell_other _ _ k _ (show k≠gn from fun e=>hx (Or.inr e))]
     exact(C k (Nat.lt_of_lt_of_le hk E3.g.size) (fun e=>by have:=HUQ.out k e.symm;omega)).trans (E3.g.keep k hk hx hn),E3.g.own⟩,E3.old,E3.new,E3.pre⟩)
    have P5:=hid (V.oth (by have:=HGN.out;omega:¬w.heap.size=gn) 4 (.slice (some ⟨g2,0,none⟩) (D.length+1) u))
    have HGG:=hid hgg
    clear O B ac s4 C ae J y V hgg aa hrow y4 y5
    by_cases hkm:D.length+1=m
    ·have HE:=hid (show els E l m m [] i= .ok (ps++[t]) j2 by rw[←HEL.out,if_pos (Or.inl (by rw[←HKL.out];exact hkm))])
     obtain⟨-,-,-,-,y4⟩:=N5.bk.c5
     have A:((D.length:Int)+1==(m:Int))=true:=by rw[beq_iff_eq];omega
     have ah:(D.length:Int)+1=(m:Int):=by omega
     clear hkm
     go_wp2
     go_ret
     rw[HE.out]
     exact⟨rfl,v3,z3,r3,_,g2,S5.out,E5.out,N5.out,fun ps' j' he=>by injection he with h1 h2;subst h1;exact⟨M3.out,X5.out,Nat.le_of_lt HGG.out⟩⟩
    ·have HTK:=hid (fun W2 (s2:St w0 a l.length cap j2 v3 z3 r3 W2)=>take_any 36 W2 s2 HC.out (by have:=HL.out;omega) G.out)
     obtain⟨-,-,-,-,y4⟩:=N5.bk.c5
     have A:((D.length:Int)+1==(m:Int))=false:=by rw[beq_eq_false_iff_ne];omega
     have ah:¬(D.length:Int)+1=(m:Int):=by omega
     have HKM:=hid hkm
     by_cases h36:kd l j2=36
     ·have HE:=hid (show els E l m g (ps++[t]) (sk l (j2+1))=els E l m m [] i by rw[←HEL.out,if_neg (by have:=HKL.out;omega)])
      have H:=hid (kd_lt (l:=l) (i:=j2) (by omega))
      rw[decide_eq_true h36,show aft l j2 36=j2+1 from if_pos h36]at HTK
      have HSK:=hid (fun W2 (s2:St w0 a l.length cap (j2+1) v3 z3 r3 W2)=>skip_any W2 s2 HC.out (by have:=HL.out;omega) H.out)
      have HSL:=hid (sk_le (l:=l) (i:=j2+1) H.out)
      clear h36 hkm
      go_wp2_with (first|(refine(HSK.out _ S6.out).mono ?_;rintro e w7 ⟨rfl,s7,g7⟩;have S7:=hid s7;have G7:=hid (G6.trans g7);clear s7 g7)|(refine(HTK.out _ S5.out).mono ?_;rintro e w6 ⟨rfl,s6,g6⟩;have S6:=hid s6;have G6:=hid g6;clear s6 g6))
      go_roundw
      case rel=>
       have e7:Ext (X0 w0.heap.size) v3 z3 r3 (w4.setCell ⟨gn,4,none⟩ (.slice (some ⟨g2,0,none⟩) (D.length+1) u)) v3 z3 r3 w7:=Ext.of G7.out
       refine⟨ps++[t],sk l (j2+1),v3,z3,r3,_,g2,S7.out,E5.trans (e7.wide (fun k _ h=>Or.inl h)),N5.ext e7,M3.out,X5.on e7,HGG.out, ?_, ?_, ?_,HSL.out.2, ?_,P5.ext e7⟩
       ·rw[←HE.out,List.length_append,List.length_singleton,show m-(ps.length+1)=g by have:=HG.out;omega]
       ·rw[List.length_append,List.length_singleton];have:=HKL.out;have:=HKP.out;have:=HPM.out;have:=HKM.out;omega
       ·have:=HIJ.out;have:=N.out;have:=HSL.out.1;omega
       ·have:=T.out;have:=HSL.out.1;omega
      case measure=>
       rw[at_of S7.out,HAT.out]
       have:=N.out
       have:=HSL.out
       have:=H.out
       omega
     ·have HE:=hid (show els E l m m [] i= .ok (ps++[t]) j2 by rw[←HEL.out,if_pos (Or.inr h36)])
      rw[decide_eq_false h36,show aft l j2 36=j2 from if_neg h36]at HTK
      clear h36 hkm
      go_wp2_with (refine(HTK.out _ S5.out).mono ?_;rintro e w6 ⟨rfl,s6,g6⟩;have S6:=hid s6;have G6:=hid g6;clear s6 g6)
      go_ret
      have e7:Ext (X0 w0.heap.size) v3 z3 r3 (w4.setCell ⟨gn,4,none⟩ (.slice (some ⟨g2,0,none⟩) (D.length+1) u)) v3 z3 r3 w6:=Ext.of G6.out
      rw[HE.out]
      exact⟨rfl,v3,z3,r3,_,g2,S6.out,E5.trans (e7.wide (fun k _ h=>Or.inl h)),N5.ext e7,fun ps' j' he=>by injection he with h1 h2;subst h1;exact⟨M3.out,X5.on e7,Nat.le_of_lt HGG.out⟩⟩
end
end Go.Proofs.YtebjmdpkobhcbaaGreatDoor.pr
