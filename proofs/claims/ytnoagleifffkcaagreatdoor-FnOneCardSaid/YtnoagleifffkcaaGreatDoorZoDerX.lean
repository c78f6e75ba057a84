/-

-/
import Derived.Test.YtnoagleifffkcaaGreatDoorZoGDv
namespace Go.Proofs.YtnoagleifffkcaaGreatDoor.dm
open Lib (hid)
open Go.ChangeShapes Go.WideShapes Go.ChangeAt Go.RowKit
open ps (Ps posOk top kidI)
open tk (Tk)
open nd (Nd Ints)
open rb (Ee Uu tkn sym ln lnF lsD brD kidD opD bodyD bodyA)
open rt (treeOk isExpr)
open et (kp kd)
open spell (Held)
set_option linter.unusedVariables false
set_option linter.unusedSimpArgs false
set_option maxRecDepth 20000
theorem d_un{E:En}(hev:Ev E){i:Nat}(hi:i<E.l.length)(hx:isExpr (E.l.getD i default).k=true)(hE:∀j,j<i→isExpr (E.l.getD j default).k=true→EC E j)(hU:∀j,j<i→isExpr (E.l.getD j default).k=true→UC E j):UC E i:=by
 intro n ak ck p a w hn hk hd ha hp
 have hxn:isExpr n.k=true:=by rw[←hn];exact hx
 have hG:=et.Good.at hev.tree hi hn hxn
 have hE':∀j,j<n.kids.length→EC E (kd n j):=fun j hj=>hE _ (hG.kids j hj).1 (hG.kids j hj).2.2
 have hU':0<n.kids.length→UC E (kd n 0):=fun h=>hU _ (hG.kids 0 h).1 (hG.kids 0 h).2.2
 have hr:=et.expr_range hxn
 obtain⟨k,op,s,t,ks⟩:=n
 dsimp only at hr hxn
 have hc:k=1∨k=2∨k=3∨k=4∨k=5∨k=6∨k=7∨k=8∨k=9∨k=10∨k=11∨k=12∨k=13∨k=14∨k=15:=by omega
 rcases hc with rfl|rfl|rfl|rfl|rfl|rfl|rfl|rfl|rfl|rfl|rfl|rfl|rfl|rfl|rfl
 ·exact d_un_1 op s t ks ak ck i p a w hi hn hxn hG hk hE' hd ha hp
 ·exact d_un_2 op s t ks ak ck i p a w hi hn hxn hG hk hE' hd ha hp
 ·exact d_un_3 op s t ks ak ck i p a w hi hn hxn hG hk hE' hd ha hp
 ·exact d_un_4 op s t ks ak ck i p a w hi hn hxn hG hk hE' hd ha hp
 ·exact d_un_5 op s t ks ak ck i p a w hi hn hxn hG hk hE' hd ha hp
 ·exact d_un_6 op s t ks ak ck i p a w hi hn hxn hG hk hE' hd ha hp
 ·exact d_un_7 op s t ks ak ck i p a w hi hn hxn hG hk hE' hd ha hp
 ·exact d_un_8 op s t ks ak ck i p a w hi hn hxn hG hk hE' hd ha hp
 ·exact d_un_9 op s t ks ak ck i p a w hi hn hxn hG hk hE' (hU' (by have:ks.length=1:=hG.one (by simp);show 0<ks.length;omega)) hd ha hp
 ·exact d_un_10 op s t ks ak ck i p a w hi hn hxn hG hk hE' (hU' (by have:ks.length=1:=hG.one (by simp);show 0<ks.length;omega)) hd ha hp
 ·exact d_un_11 op s t ks ak ck i p a w hi hn hxn hG hk hE' hd ha hp
 ·exact d_un_12 op s t ks ak ck i p a w hi hn hxn hG hk hE' hd ha hp
 ·exact d_un_13 op s t ks ak ck i p a w hi hn hxn hG hk hE' hd ha hp
 ·exact d_un_14 op s t ks ak ck i p a w hi hn hxn hG hk hE' hd ha hp
 ·exact d_un_15 op s t ks ak ck i p a w hi hn hxn hG hk hE' (hU' (by have:ks.length=2:=hG.two (by simp);show 0<ks.length;omega)) hd ha hp
def ECa(E:En)(i:Nat)(a:Option Nat):Prop:=∀(p:Ps) (w:World),Dr E w→In E.L a→posOk p.l p.d=true→
 Calls Tryz.prog 33 #[.pointer (some ⟨E.bd,0,none⟩),.int .i64 (i:Int),.int .i64 (co a),.agg #[.int .i64 p.l,.bool p.d,.bool p.i,.bool p.g,.bool p.s]] w (DOut E (a.bind fun a=>Ee E.L E.l i a p) w)
theorem ec_none{E:En}(i:Nat):ECa E i none:=by
 intro p w hd ha hp
 have HD:=hid hd
 clear hd ha hp
 show Calls _ _ #[_,_,.int .i64 (-1),_] w _
 go_enter Tryz.func33,Tryz.ntmps33
 go_wp2
 go_ret
 exact⟨rfl,fun b hb=>by(cases hb),gb_any _ _ _,HD.any _⟩
theorem d_enclosed{E:En}(i A:Nat)(w:World)(hA:A≤E.L.length)(hE:ECa E i (sym E.L 32 (some A)))(hd:Dr E w):
  Calls Tryz.prog 109 #[.pointer (some ⟨E.bd,0,none⟩),.int .i64 (i:Int),.int .i64 (A:Int)] w (DOut E (sym E.L 33 ((sym E.L 32 (some A)).bind fun c=>Ee E.L E.l i c top)) w):=by
 have HD:=hid hd
 have HE:=hid hE
 have HA:=hid (show In E.L (some A)from fun b hb=>by(injection hb with hb;omega))
 clear hd hE hA
 go_enter Tryz.func109,Tryz.ntmps109
 go_wp2_with fail
 refine(d_symbol 32 (some A) _ HD.out HA.out).mono ?_
 rintro e w1 ⟨rfl,h1,h2,h3⟩
 have H1:=hid h1
 have H2:=hid h2
 have H3:=hid h3
 clear h1 h2 h3
 go_wp2_with fail
 refine(ps.impl_top _).mono ?_
 rintro e w2 ⟨rfl,b2⟩
 have D2:=hid (H3.over b2)
 have G2:=hid (gb_trans H2.out (gb_bel b2))
 clear b2
 go_wp2_with fail
 refine(HE.out top _ D2.out H1.out (by decide)).mono ?_
 rintro e w3 ⟨rfl,h1,h2,h3⟩
 have K1:=hid h1
 have K2:=hid (gb_trans G2.out h2)
 have K3:=hid h3
 clear h1 h2 h3
 go_wp2_with fail
 refine(d_symbol 33 _ _ K3.out K1.out).mono ?_
 rintro e w4 ⟨rfl,h1,h2,h3⟩
 have M1:=hid h1
 have M2:=hid (gb_trans K2.out h2)
 have M3:=hid h3
 clear h1 h2 h3
 go_wp2
 go_ret
 exact⟨rfl,M1.out,M2.out,M3.out⟩
def SBx(w:World)(g:Nat)(i A:Nat)(p:Ps):Prop:=w.heap[g]? =some (.cells #[.int .i64 (i:Int),.int .i64 (A:Int),.int .i64 p.l,.bool p.d,.bool p.i,.bool p.g,.bool p.s] 96 (0,0))
theorem SBx.c{w:World}{g i A:Nat}{p:Ps}(h:SBx w g i A p):w.cell? ⟨g,0,none⟩=some (.int .i64 (i:Int))∧w.cell? ⟨g,1,none⟩=some (.int .i64 (A:Int))∧w.cell? ⟨g,2,none⟩=some (.int .i64 p.l)∧w.cell? ⟨g,3,none⟩=some (.bool p.d)∧w.cell? ⟨g,4,none⟩=some (.bool p.i)∧w.cell? ⟨g,5,none⟩=some (.bool p.g)∧w.cell? ⟨g,6,none⟩=some (.bool p.s):=
 ⟨by rw[cell_of_row _ _ 0 _ _ _ h];rfl,by rw[cell_of_row _ _ 1 _ _ _ h];rfl,by rw[cell_of_row _ _ 2 _ _ _ h];rfl,by rw[cell_of_row _ _ 3 _ _ _ h];rfl,by rw[cell_of_row _ _ 4 _ _ _ h];rfl,by rw[cell_of_row _ _ 5 _ _ _ h];rfl,by rw[cell_of_row _ _ 6 _ _ _ h];rfl⟩
theorem SBx.on{w w':World}{g i A:Nat}{p:Ps}(h:SBx w g i A p)(hb:Below w.heap.size w w'):SBx w' g i A p:=(hb.block _ (lt_hp h)).trans h
theorem SBx.go{w w':World}{g m i A:Nat}{p:Ps}(h:SBx w g i A p)(hb:w.grownBy w' (some m))(hne:g≠m):SBx w' g i A p:=gb_box hb h hne
set_option maxHeartbeats 3200000 in
theorem d_spanEnd{E:En}(i A:Nat)(p:Ps)(w:World)(hi:i<E.l.length)(hA:A≤E.L.length)(hp:posOk p.l p.d=true)(hU:UC E i)(hE:ECa E i (sym E.L 32 (some A)))(hd:Dr E w):
  Calls Tryz.prog 63 #[.pointer (some ⟨E.bd,0,none⟩),.agg #[.int .i64 (i:Int),.int .i64 (A:Int),.int .i64 p.l,.bool p.d,.bool p.i,.bool p.g,.bool p.s]] w (DOut E (Ee E.L E.l i A p) w):=by
 have HU:=hid hU
 have HE:=hid hE
 have HP:=hid hp
 have HA:=hid hA
 have HAI:=hid (show In E.L (some A)from fun b hb=>by(injection hb with hb;omega))
 obtain⟨X,hX⟩:∃X,X=Ee E.L E.l i A p:=⟨_,rfl⟩
 rw[←hX]
 rw[rb.Ee_eq hA p]at hX
 obtain⟨bx,ox,ax,cx,eX,hbx,h5,hkx⟩:=node_at hd.ev hi
 have hgt:E.l.getD i default=E.l[i]:=by rw[List.getD_eq_getElem?_getD,List.getElem?_eq_getElem hi];rfl
 rw[hgt]at hX
 have HX:=hid hX
 obtain⟨n,hn⟩:∃n,n=E.l[i]:=⟨_,rfl⟩
 rw[←hn]at h5 hkx hgt HX
 have HGT:=hid hgt
 have HKX:=hid hkx
 obtain⟨W,hW⟩:∃W,W=w.alloc (.cells #[.int .i64 (i:Int),.int .i64 (A:Int),.int .i64 p.l,.bool p.d,.bool p.i,.bool p.g,.bool p.s] 96):=⟨_,rfl⟩
 have hbel:Below w.heap.size w W:=by rw[hW];exact(Below.refl _ _).alloc (Nat.le_refl _) _
 have HS:=hid (show SBx W w.heap.size i A p by rw[hW];exact heap_alloc_new w _)
 have HD:=hid (hd.over hbel)
 have HGB:=hid (gb_bel (m:=E.mb) hbel)
 have HNE:=hid (show w.heap.size≠E.mb from fun e=>by have:=hd.memo.lt;omega)
 have s0:=HS.c
 obtain⟨q1,q2,q3,q4,q5⟩:=h5.keep HD.bel hbx
 have q6:=HD.c.2.1
 rw[eX]at q6
 have DZ:=HD.any (.cells #[.int .i64 0,.int .i64 0,.string ⟨#[]⟩,.string ⟨#[]⟩,.slice none 0 0] 57)
 obtain⟨z0,z1,z2,z3,z4,z5,z6⟩:=(HS.on ((Below.refl _ _).alloc (Nat.le_refl _) (.cells #[.int .i64 0,.int .i64 0,.string ⟨#[]⟩,.string ⟨#[]⟩,.slice none 0 0] 57))).c
 obtain⟨y1,y2,y3,y4,y5⟩:=h5.keep DZ.bel hbx
 have y6:=DZ.c.2.1
 rw[eX]at y6
 clear DZ
 have j1:(i:Int)<(E.l.length:Int):=by omega
 have j0:(0:Int)≤(i:Int):=by omega
 have HWS:=hid (show W.heap.size=w.heap.size+1 by rw[hW];simp)
 clear hU hE hp hd hX hkx hgt hn hbel h5 eX hbx hA
 go_enter Tryz.func63,Tryz.ntmps63
 go_wp2
 rw[←hW]
 clear hW
 go_region
 obtain⟨V,hV⟩:∃V,V=(W.alloc (.cells #[.int .i64 n.k,.int .i64 n.op,.string n.s,.string n.t,.slice ax n.kids.length cx] 57)).drew:=⟨_,rfl⟩
 rw[←hV]
 have bV:Below W.heap.size W V:=by rw[hV];exact((Below.refl _ _).alloc (Nat.le_refl _) _).drew
 have NV:=hid (show NBx V W.heap.size n ax cx by rw[hV];exact heap_alloc_new W _)
 have SV:=hid (HS.on bV)
 have DV:=hid (HD.over bV)
 have GV:=hid (gb_trans HGB.out (gb_bel bV))
 have y:=hid (show W.heap.size≠E.mb from fun e=>by have:=HD.memo.lt;omega)
 clear hV bV s0 q1 q2 q3 q4 q5 q6 z0 z1 z2 z3 z4 z5 z6 y1 y2 y3 y4 y5 y6
 have n0:=NV.c
 have s0:=SV.c
 obtain⟨fb,hfb⟩:∃fb,fb=ps.fits n.k n.op p.l p.d p.i p.g p.s:=⟨_,rfl⟩
 have HF:=hid (fun w=>show Calls _ _ _ w (fun e w'=>e= .returned (.bool fb)∧Below w.heap.size w w') by rw[hfb];exact ps.impl_fits n.k n.op p.l n.s n.t ax n.kids.length cx p.d p.i p.g p.s w)
 have hft:pe.ft n.k n.op p=fb:=hfb.symm
 rw[hft]at HX
 clear hft hfb
 go_wp2_with fail
 refine(HF.out _).mono ?_
 rintro e w2 ⟨rfl,b2⟩
 have D2:=hid (DV.over b2)
 have G2:=hid (gb_trans GV.out (gb_bel b2))
 have N2:=hid (NV.on b2)
 have S2:=hid (SV.on b2)
 clear b2 n0 s0
 have n0:=N2.c
 have s0:=S2.c
 cases fb with
 |false=>
  have HXE:=hid (show X=sym E.L 33 ((sym E.L 32 (some A)).bind fun c=>Ee E.L E.l i c top)from HX.out)
  go_wp2_with fail
  refine(d_enclosed i A _ HA.out HE.out D2.out).mono ?_
  rintro e w3 ⟨rfl,h1,h2,h3⟩
  rw[←HXE.out]at h1⊢
  have K1:=hid h1
  have K2:=hid (gb_trans G2.out h2)
  have K3:=hid h3
  clear h1 h2 h3
  go_wp2
  go_ret
  exact⟨rfl,K1.out,K2.out,K3.out⟩
 |true=>
  go_wp2_with fail
  refine(HU.out n ax cx p (some A) _ HGT.out HKX.out D2.out HAI.out HP.out).mono ?_
  rintro e w3 ⟨rfl,h1,h2,h3⟩
  have K1:=hid h1
  have K2:=hid (gb_trans G2.out h2)
  have K3:=hid h3
  have S3:=hid (S2.go h2 HNE.out)
  clear h1 h2 h3 n0 s0
  have s0:=S3.c
  have eb:((some A).bind fun a=>Uu E.L E.l i a p)=Uu E.L E.l i A p:=rfl
  rw[eb]at K1⊢
  cases hu:Uu E.L E.l i A p with
  |some b=>
   have HXE:=hid (show X=some b by have:=HX.out;rw[hu]at this;simpa using this)
   have e1:co (some b)=(b:Int):=rfl
   have e2:((b:Int) != -1)=true:=by rw[bne_iff_ne];omega
   rw[hu]at K1
   have j:=K1
   rw[e1]
   clear hu K1
   go_wp2
   go_ret
   exact⟨by rw[HXE.out];rfl,by rw[HXE.out];exact j.out,K2.out,K3.out⟩
  |none=>
   have HXE:=hid (show X=sym E.L 33 ((sym E.L 32 (some A)).bind fun c=>Ee E.L E.l i c top) by have:=HX.out;rw[hu]at this;simpa using this)
   have e1:co none= -1:=rfl
   rw[e1]
   clear hu
   go_wp2_with fail
   refine(d_enclosed i A _ HA.out HE.out K3.out).mono ?_
   rintro e w4 ⟨rfl,h1,h2,h3⟩
   rw[←HXE.out]at h1⊢
   have M1:=hid h1
   have M2:=hid (gb_trans K2.out h2)
   have M3:=hid h3
   clear h1 h2 h3
   go_wp2
   go_ret
   exact⟨rfl,M1.out,M2.out,M3.out⟩
set_option maxHeartbeats 3200000 in
theorem d_expr{E:En}(i A:Nat)(p:Ps)(w:World)(hi:i<E.l.length)(hA:A≤E.L.length)(hp:posOk p.l p.d=true)(hU:UC E i)(hE:ECa E i (sym E.L 32 (some A)))(hd:Dr E w):
  Calls Tryz.prog 33 #[.pointer (some ⟨E.bd,0,none⟩),.int .i64 (i:Int),.int .i64 (A:Int),.agg #[.int .i64 p.l,.bool p.d,.bool p.i,.bool p.g,.bool p.s]] w (DOut E (Ee E.L E.l i A p) w):=by
 have HU:=hid hU
 have HE:=hid hE
 have HP:=hid hp
 have HA:=hid hA
 have HI:=hid hi
 have hll:=hd.ev.ll
 have hxl:=hd.ev.xl
 have hpr:=rb.pos_range hp
 have e0:((A:Int)== -1)=false:=by rw[beq_eq_false_iff_ne];omega
 have hwi:(Lit.int .i64 (i:Int)).wf=true:=WalkArith.wf_i64 (by omega)
 have hwa:(Lit.int .i64 (A:Int)).wf=true:=WalkArith.wf_i64 (by omega)
 have hwl:(Lit.int .i64 p.l).wf=true:=WalkArith.wf_i64 (by omega)
 obtain⟨kl,hkl⟩:=key_is hwi hwa hwl
 have HKL:=hid hkl
 have HOK:=hid (show ok (i,A,p)from⟨by show i≤400;omega,by show A≤400;omega,by show 0≤p.l;omega,by show p.l≤15;omega⟩)
 have HLL:=hid hll
 obtain⟨W,hW⟩:∃W,W=(w.alloc (.cells #[.int .i64 p.l,.bool p.d,.bool p.i,.bool p.g,.bool p.s] 26)).alloc (.cells #[.int .i64 (i:Int),.int .i64 (A:Int),.int .i64 p.l,.bool p.d,.bool p.i,.bool p.g,.bool p.s] 96):=⟨_,rfl⟩
 have hbel:Below w.heap.size w W:=by rw[hW];exact((Below.refl _ _).alloc (Nat.le_refl _) _).alloc (by simp) _
 have HS:=hid (show SBx W (w.heap.size+1) i A p by rw[hW];exact(two_boxes w _ _).2)
 have HD:=hid (hd.over hbel)
 have HGB:=hid (gb_bel (m:=E.mb) hbel)
 have HNE:=hid (show w.heap.size+1≠E.mb from fun e=>by have:=hd.memo.lt;omega)
 obtain⟨c,b,hlk,hkn⟩:=HD.memo.look hkl
 unfold kv at hlk
 have J:=hlk W rfl
 have I:=hlk W.drew rfl
 have HKN:=hid hkn
 have s0:=HS.c
 have m2:=HD.c.2.2
 clear hU hE hp hd hkl hbel hwi hwa hwl hpr hA hi hll hxl hlk hkn
 go_enter Tryz.func33,Tryz.ntmps33
 go_wp2
 rw[←hW]
 clear hW
 go_region
 cases b with
 |true=>
  obtain⟨hc,hin⟩:=HKN.out rfl
  have HC:=hid hc
  go_wp2
  go_ret
  exact⟨by rw[←HC.out];rfl,hin,gb_trans HGB.out (gb_bel (Below.refl _ _).drew),HD.drew⟩
 |false=>
  obtain⟨V,hV⟩:∃V,V=W.drew:=⟨_,rfl⟩
  rw[←hV]
  have bV:Below W.heap.size W V:=by rw[hV];exact(Below.refl _ _).drew
  have SV:=hid (HS.on bV)
  have DV:=hid (HD.over bV)
  have GV:=hid (gb_trans HGB.out (gb_bel bV))
  clear hV bV s0 m2 J I
  have s0:=SV.c
  go_wp2_with fail
  refine(d_spanEnd i A p _ HI.out HA.out HP.out HU.out HE.out DV.out).mono ?_
  rintro e w3 ⟨rfl,h1,h2,h3⟩
  have K1:=hid h1
  have K2:=hid (gb_trans GV.out h2)
  have K3:=hid h3
  have S3:=hid (SV.go h2 HNE.out)
  clear h1 h2 h3 s0
  have s0:=S3.c
  have m2:=K3.c.2.2
  have hco:=K1.co HLL.out
  have hwc:(Lit.int .i64 (co (Ee E.L E.l i A p))).wf=true:=WalkArith.wf_i64 (by omega)
  obtain⟨w4,G,K,O⟩:=K3.memo.store HKL.out HOK.out K1.out hwc
  obtain⟨w5,j,y,F⟩:=(K3.memo.kept (w':=w3.drew) rfl).store HKL.out HOK.out K1.out hwc
  unfold kv at G j
  obtain⟨r,hr⟩:∃r,r=co (Ee E.L E.l i A p):=⟨_,rfl⟩
  rw[←hr]at G j⊢
  have HR:=hid hr
  have G5:=hid (show w3.grownBy w5 (some E.mb)from gb_trans (gb_bel (Below.refl _ _).drew) F)
  have P:=hid y
  clear hwc hco hr K O y F
  go_wp2
  go_region
  have HBX:=hid (gb_box G5.out K3.box (by have:=K3.mbd;omega))
  have HBEL:=hid (K3.bel.grown G5.out K3.bel.size (fun k e=>by cases e;exact K3.bm))
  go_wp2
  go_ret
  exact⟨by rw[←HR.out];rfl,K1.out,gb_trans K2.out G5.out,⟨K3.ev,HBEL.out,HBX.out,P.out,K3.bm,K3.mbd⟩⟩
theorem ec_at{E:En}{i:Nat}(hev:Ev E)(hi:i<E.l.length)(hU:UC E i):∀d A,A≤E.L.length→E.L.length-A≤d→ECa E i (some A):=by
 intro d
 induction d with
 |zero=>
  intro A hA hd p w hdr ha hp
  have hs:sym E.L 32 (some A)=none:=by
   unfold rb.sym rb.tkn
   simp only[Option.bind_some]
   rw[if_neg (fun h=>by have:=h.2.2;omega)]
  exact d_expr i A p w hi hA hp hU (by rw[hs];exact ec_none i) hdr
 |succ d ih=>
  intro A hA hd p w hdr ha hp
  refine d_expr i A p w hi hA hp hU ?_ hdr
  cases hs:sym E.L 32 (some A)with
  |none=>exact ec_none i
  |some c=>
   obtain⟨a',e1,-,-,e4,rfl⟩:=rb.tkn_some hs
   injection e1 with e1
   subst e1
   exact ih _ (by omega) (by omega)
theorem ec_of{E:En}{i:Nat}(hev:Ev E)(hi:i<E.l.length)(hU:UC E i):EC E i:=by
 intro p a w hd ha hp
 cases a with
 |none=>exact ec_none i p w hd ha hp
 |some A=>exact ec_at hev hi hU E.L.length A (ha A rfl) (by omega) p w hd ha hp
theorem ec_all{E:En}(hev:Ev E):∀i,i<E.l.length→isExpr (E.l.getD i default).k=true→UC E i∧EC E i:=by
 intro i
 induction i using Nat.strongRecOn with
 |_ i ih=>
  intro hi hx
  have hU:=d_un hev hi hx (fun j hj hxj=>(ih j hj (by omega) hxj).2) (fun j hj hxj=>(ih j hj (by omega) hxj).1)
  exact⟨hU,ec_of hev hi hU⟩
end Go.Proofs.YtnoagleifffkcaaGreatDoor.dm
