/-

-/
import Derived.Test.YtnoagleifffkcaaGreatDoorZoGDi
namespace Go.Proofs.YtnoagleifffkcaaGreatDoor.dm
open Lib (hid)
open Go.ChangeShapes Go.WideShapes Go.ChangeAt Go.RowKit
open ps (Ps posOk top kidI)
open tk (Tk)
open nd (Nd Ints)
open rb (Ee Uu tkn sym ln lnF lsD brD kidD opD bodyD bodyA)
open rt (treeOk isExpr)
open et (kp kd)
open spell (Held)
set_option linter.unusedVariables false
set_option linter.unusedSimpArgs false
set_option maxRecDepth 20000
theorem d_operator{E:En}(op:Int)(a:Option Nat)(w:World)(hd:Dr E w)(ha:In E.L a):
  Calls Tryz.prog 214 #[.pointer (some ⟨E.bd,0,none⟩),.int .i64 op,.int .i64 (co a)] w (DOut E (opD E.L op a) w):=by
 have HD:=hid hd
 have HA:=hid ha
 clear hd ha
 by_cases h99:op=99
 ·subst h99
  go_enter Tryz.func214,Tryz.ntmps214
  go_wp2
  go_ret
  exact⟨rfl,HA.out,gb_refl _ _,HD.out⟩
 by_cases h44:op=44
 ·subst h44
  go_enter Tryz.func214,Tryz.ntmps214
  go_wp2_with fail
  refine(d_symbol 44 a _ HD.out HA.out).mono ?_
  rintro e w1 ⟨rfl,h1,h2,h3⟩
  have H1:=hid h1
  have H2:=hid h2
  have H3:=hid h3
  clear h1 h2 h3
  go_wp2_with fail
  refine(d_lines (sym E.L 44 a) _ H3.out H1.out).mono ?_
  rintro e w2 ⟨rfl,h1,h2,h3⟩
  have K1:=hid h1
  have K2:=hid (gb_trans H2.out h2)
  have K3:=hid h3
  clear h1 h2 h3
  go_wp2
  go_ret
  exact⟨rfl,K1.out,K2.out,K3.out⟩
 by_cases h45:op=45
 ·subst h45
  go_enter Tryz.func214,Tryz.ntmps214
  go_wp2_with fail
  refine(d_symbol 45 a _ HD.out HA.out).mono ?_
  rintro e w1 ⟨rfl,h1,h2,h3⟩
  have H1:=hid h1
  have H2:=hid h2
  have H3:=hid h3
  clear h1 h2 h3
  go_wp2_with fail
  refine(d_lines (sym E.L 45 a) _ H3.out H1.out).mono ?_
  rintro e w2 ⟨rfl,h1,h2,h3⟩
  have K1:=hid h1
  have K2:=hid (gb_trans H2.out h2)
  have K3:=hid h3
  clear h1 h2 h3
  go_wp2
  go_ret
  exact⟨rfl,K1.out,K2.out,K3.out⟩
 ·have e1:(op==99)=false:=by simpa using h99
  have e2:(op==44)=false:=by simpa using h44
  have e3:(op==45)=false:=by simpa using h45
  have HX:=hid (show opD E.L op a=sym E.L op a by unfold rb.opD;rw[if_neg h99,if_neg (by omega)])
  clear h99 h44 h45
  go_enter Tryz.func214,Tryz.ntmps214
  go_wp2_with fail
  refine(d_symbol op a _ HD.out HA.out).mono ?_
  rintro e w1 ⟨rfl,h1,h2,h3⟩
  have H1:=hid h1
  have H2:=hid h2
  have H3:=hid h3
  clear h1 h2 h3
  go_wp2
  go_ret
  exact⟨by rw[HX.out];rfl,by rw[HX.out];exact H1.out,H2.out,H3.out⟩
def lsO(E:En)(n:Nd)(s:Option Nat):Nat→Option Nat
 |0=>s
 |J+1=>(if J=0 then lsO E n s J else ln E.L (sym E.L 36 (lsO E n s J))).bind fun a=>Ee E.L E.l (kd n J) a top
theorem lsO_ls(E:En)(n:Nd)(s:Option Nat):∀d J,J+d=n.kids.length→0<J→lsD E.L (Ee E.L E.l) (n.kids.drop J) (lsO E n s J)=lsO E n s n.kids.length:=by
 intro d
 induction d with
 |zero=>
  intro J hJ _
  rw[List.drop_eq_nil_of_le (by omega),show J=n.kids.length by omega]
  rfl
 |succ d ih=>
  intro J hJ h0
  have hk:n.kids[J].toNat=kd n J:=by unfold et.kd;rw[List.getD_eq_getElem?_getD,List.getElem?_eq_getElem];rfl
  rw[List.drop_eq_getElem_cons (by omega:J<n.kids.length)]
  show lsD E.L (Ee E.L E.l) (n.kids.drop (J+1)) ((ln E.L (sym E.L 36 (lsO E n s J))).bind fun a=>Ee E.L E.l n.kids[J].toNat a top)=_
  rw[hk,←ih (J+1) (by omega) (by omega)]
  congr 1
  show _=(if J=0 then lsO E n s J else ln E.L (sym E.L 36 (lsO E n s J))).bind fun a=>Ee E.L E.l (kd n J) a top
  rw[if_neg (by omega)]
theorem lsO_br(E:En)(n:Nd)(x y:Int)(a:Option Nat):brD E.L (Ee E.L E.l) n.kids x y a=sym E.L y (lsO E n (sym E.L x a) n.kids.length):=by
 by_cases h0:n.kids.length=0
 ·rw[h0,List.length_eq_zero_iff.1 h0]
  rfl
 ·have hk:n.kids=n.kids[0]::n.kids.drop 1:=by
   rw[←List.drop_eq_getElem_cons (by omega:0<n.kids.length)];rfl
  have e:n.kids[0].toNat=kd n 0:=by unfold et.kd;rw[List.getD_eq_getElem?_getD,List.getElem?_eq_getElem];rfl
  have h1:=lsO_ls E n (sym E.L x a) (n.kids.length-1) 1 (by omega) Nat.one_pos
  unfold rb.brD
  rw[←h1]
  conv=>lhs;rw[hk]
  show sym E.L y (lsD E.L (Ee E.L E.l) (n.kids.drop 1) ((sym E.L x a).bind fun a=>Ee E.L E.l n.kids[0].toNat a top))=_
  rw[e]
  rfl
def RelLs(E:En)(w:World)(n:Nd)(s:Option Nat)(v i:Value)(wr:World):Prop:=
 ∃J:Nat,J≤n.kids.length∧i= .int .i64 (J:Int)∧v= .int .i64 (co (lsO E n s J))∧In E.L (lsO E n s J)∧w.grownBy wr (some E.mb)∧Dr E wr
set_option maxHeartbeats 3200000 in
theorem d_list{E:En}(n:Nd)(ak:Option Addr)(ck:Nat)(x y:Int)(i:Nat)(a:Option Nat)(w:World)(hG:et.Good E.l i n)(hk:Ints E.W0.heap.size E.W0 ak n.kids)(hE:∀j,j<n.kids.length→EC E (kd n j))(hd:Dr E w)(ha:In E.L a):
  Calls Tryz.prog 167 #[.pointer (some ⟨E.bd,0,none⟩),.agg #[.int .i64 n.k,.int .i64 n.op,.string n.s,.string n.t,.slice ak n.kids.length ck],.int .i64 x,.int .i64 y,.int .i64 (co a)] w (DOut E (brD E.L (Ee E.L E.l) n.kids x y a) w):=by
 have HE:=hid hE
 have HA:=hid ha
 have HEV:=hid hd.ev
 have HG:=hid hG
 have HK:=hid hk
 have hnb:n.kids.length≤6:=hG.most
 obtain⟨W,hW⟩:∃W,W=w.alloc (.cells #[.int .i64 n.k,.int .i64 n.op,.string n.s,.string n.t,.slice ak n.kids.length ck] 57):=⟨_,rfl⟩
 have hbel:Below w.heap.size w W:=by rw[hW];exact(Below.refl _ _).alloc (Nat.le_refl _) _
 have HN:=hid (show NBx W w.heap.size n ak ck by rw[hW];exact heap_alloc_new w _)
 have HD:=hid (hd.over hbel)
 have HGB:=hid (gb_bel (m:=E.mb) hbel)
 have HNE:=hid (show w.heap.size≠E.mb from fun e=>by have:=hd.memo.lt;omega)
 have HX:=hid (lsO_br E n x y a)
 obtain⟨s0,F⟩:∃s0,s0=sym E.L x a:=⟨_,rfl⟩
 rw[←F]at HX
 have I:=hid F
 clear hd ha hE hG hk hbel F
 go_enter Tryz.func167,Tryz.ntmps167
 go_wp2_with fail
 rw[←hW]
 refine(d_symbol x a _ HD.out HA.out).mono ?_
 rintro e w1 ⟨rfl,h1,h2,h3⟩
 rw[←I.out]at h1⊢
 have H1:=hid h1
 have H2:=hid (gb_trans HGB.out h2)
 have H3:=hid h3
 obtain⟨n0,n1,n2,n3,n4⟩:=(HN.go h2 HNE.out).c
 clear h1 h2 h3 hW
 go_wp2
 clear n0 n1 n2 n3 n4
 go_loopw [11,21] (fun v i wr=>RelLs E w n s0 v i wr) (fun _ i _=>n.kids.length-(intOf i).toNat)
 case atStart=>exact⟨0,by omega,rfl,rfl,H1.out,H2.out,H3.out⟩
 case round=>
  obtain⟨J,hJ,rfl,rfl,hin,hgr,hdr⟩:=hrel
  have HIN:=hid hin
  have HGR:=hid hgr
  have HDR:=hid hdr
  clear hin hgr hdr
  by_cases hlt:J<n.kids.length
  ·obtain⟨bk,ok,eK,hbk,hcell⟩:=kid_at HEV.out hlt HK.out HG.out
   have c0:=(HDR.bel.cell (p:=⟨bk,ok+J,none⟩) hbk).trans hcell
   have HEJ:=hid (HE.out J hlt)
   have j1:(J:Int)<(n.kids.length:Int):=by omega
   have j0:(0:Int)≤(J:Int):=by omega
   subst eK
   clear hcell hbk
   by_cases hz:J=0
   ·subst hz
    rw[Nat.add_zero]at c0
    have HST:=hid (show lsO E n s0 (0+1)=(lsO E n s0 0).bind fun a=>Ee E.L E.l (kd n 0) a top from rfl)
    go_wp2_with fail
    refine(ps.impl_top _).mono ?_
    rintro e w2 ⟨rfl,b2⟩
    have D2:=hid (HDR.over b2)
    have G2:=hid (gb_trans HGR.out (gb_bel b2))
    clear b2
    go_wp2_with fail
    refine(HEJ.out top (lsO E n s0 0) _ D2.out HIN.out (by decide)).mono ?_
    rintro e w3 ⟨rfl,h1,h2,h3⟩
    rw[←HST.out]at h1⊢
    have K1:=hid h1
    have K2:=hid (gb_trans G2.out h2)
    have K3:=hid h3
    clear h1 h2 h3
    go_wp2
    go_roundw
    case rel=>exact⟨0+1,by omega,by go_num,rfl,K1.out,K2.out,K3.out⟩
    case measure=>simp[intOf];omega
   ·have HST:=hid (show lsO E n s0 (J+1)=(ln E.L (sym E.L 36 (lsO E n s0 J))).bind fun a=>Ee E.L E.l (kd n J) a top by
     show(if J=0 then lsO E n s0 J else ln E.L (sym E.L 36 (lsO E n s0 J))).bind _=_
     rw[if_neg hz])
    have jz:(0:Int)<(J:Int):=by omega
    clear hz
    go_wp2_with fail
    refine(d_symbol 36 (lsO E n s0 J) _ HDR.out HIN.out).mono ?_
    rintro e G ⟨rfl,h1,h2,h3⟩
    have M1:=hid h1
    have M2:=hid (gb_trans HGR.out h2)
    have M3:=hid h3
    clear h1 h2 h3
    go_wp2_with fail
    refine(d_lines (sym E.L 36 (lsO E n s0 J)) _ M3.out M1.out).mono ?_
    rintro e w1'' ⟨rfl,h1,h2,h3⟩
    have N1:=hid h1
    have N2:=hid (gb_trans M2.out h2)
    have N3:=hid h3
    clear h1 h2 h3
    go_wp2_with fail
    refine(ps.impl_top _).mono ?_
    rintro e w2 ⟨rfl,b2⟩
    have D2:=hid (N3.over b2)
    have G2:=hid (gb_trans N2.out (gb_bel b2))
    clear b2
    go_wp2_with fail
    refine(HEJ.out top (ln E.L (sym E.L 36 (lsO E n s0 J))) _ D2.out N1.out (by decide)).mono ?_
    rintro e w3 ⟨rfl,h1,h2,h3⟩
    rw[←HST.out]at h1⊢
    have K1:=hid h1
    have K2:=hid (gb_trans G2.out h2)
    have K3:=hid h3
    clear h1 h2 h3
    go_wp2
    go_roundw
    case rel=>exact⟨J+1,by omega,by go_num,rfl,K1.out,K2.out,K3.out⟩
    case measure=>simp[intOf];omega
  ·obtain rfl:J=n.kids.length:=by omega
   go_wp2_with fail
   refine(d_symbol y (lsO E n s0 n.kids.length) _ HDR.out HIN.out).mono ?_
   rintro e G ⟨rfl,h1,h2,h3⟩
   have M1:=hid h1
   have M2:=hid (gb_trans HGR.out h2)
   have M3:=hid h3
   clear h1 h2 h3
   go_wp2
   go_ret
   exact⟨by rw[HX.out];rfl,by rw[HX.out];exact M1.out,M2.out,M3.out⟩
end Go.Proofs.YtnoagleifffkcaaGreatDoor.dm

namespace Go.Proofs.YtnoagleifffkcaaGreatDoor.dm
open Lib (hid)
open Go.ChangeShapes Go.WideShapes Go.ChangeAt Go.RowKit
open ps (Ps posOk top kidI)
open tk (Tk)
open nd (Nd Ints)
open rb (Ee Uu tkn sym ln lnF lsD brD kidD opD bodyD bodyA)
open rt (treeOk isExpr)
open et (kp kd)
open spell (Held)
set_option linter.unusedVariables false
set_option linter.unusedSimpArgs false
set_option maxRecDepth 20000
set_option maxHeartbeats 1600000 in
theorem d_builtin{E:En}(n:Nd)(ak:Option Addr)(ck:Nat)(i:Nat)(a:Option Nat)(w:World)(hG:et.Good E.l i n)(hk:Ints E.W0.heap.size E.W0 ak n.kids)(hE:∀j,j<n.kids.length→EC E (kd n j))(hd:Dr E w)(ha:In E.L a):
  Calls Tryz.prog 168 #[.pointer (some ⟨E.bd,0,none⟩),.agg #[.int .i64 n.k,.int .i64 n.op,.string n.s,.string n.t,.slice ak n.kids.length ck],.int .i64 (co a)] w (DOut E (if pe.isLen n.s=true∧n.kids=[]∧sym E.L 32 (tkn E.L 8 n.s a)=none then tkn E.L 8 n.s a else brD E.L (Ee E.L E.l) n.kids 32 33 (tkn E.L 8 n.s a)) w):=by
 have HE:=hid hE
 have HA:=hid ha
 have HG:=hid hG
 have HK:=hid hk
 have hnb:n.kids.length≤6:=hG.most
 obtain⟨W,hW⟩:∃W,W=w.alloc (.cells #[.int .i64 n.k,.int .i64 n.op,.string n.s,.string n.t,.slice ak n.kids.length ck] 57):=⟨_,rfl⟩
 have hbel:Below w.heap.size w W:=by rw[hW];exact(Below.refl _ _).alloc (Nat.le_refl _) _
 have HN:=hid (show NBx W w.heap.size n ak ck by rw[hW];exact heap_alloc_new w _)
 have HD:=hid (hd.over hbel)
 have HGB:=hid (gb_bel (m:=E.mb) hbel)
 have HNE:=hid (show w.heap.size≠E.mb from fun e=>by have:=hd.memo.lt;omega)
 have n0:=HN.c
 obtain⟨T,hT⟩:∃T,T=tkn E.L 8 n.s a:=⟨_,rfl⟩
 rw[←hT]
 have HT:=hid hT
 have HLEQ:=hid (show pe.isLen n.s=(n.s.toList==[108,101,110,103,116,104])from rfl)
 obtain⟨X,hX⟩:∃X,X=(if pe.isLen n.s=true∧n.kids=[]∧sym E.L 32 T=none then T else brD E.L (Ee E.L E.l) n.kids 32 33 T):=⟨_,rfl⟩
 rw[←hX]
 have HX:=hid hX
 clear hd ha hE hG hk hbel hT hX
 go_enter Tryz.func168,Tryz.ntmps168
 go_wp2_with fail
 rw[←hW]
 clear hW
 refine(d_token 8 n.s a _ HD.out HA.out).mono ?_
 rintro e w1 ⟨rfl,h1,h2,h3⟩
 rw[←HT.out]at h1⊢
 have H1:=hid h1
 have H2:=hid (gb_trans HGB.out h2)
 have H3:=hid h3
 have N1:=hid (HN.go h2 HNE.out)
 clear h1 h2 h3 n0
 have n0:=N1.c
 by_cases hl:(n.s.toList==[108,101,110,103,116,104])=true
 ·by_cases hz:n.kids.length=0
  ·have y:n.kids=[]:=List.length_eq_zero_iff.1 hz
   have F:((n.kids.length:Int)==0)=true:=by rw[beq_iff_eq];omega
   have G:(n.kids.length:Int)=0:=by omega
   cases hs:sym E.L 32 T with
   |none=>
    have HXE:=hid (show X=T by rw[HX.out,if_pos ⟨by rw[HLEQ.out];exact hl,y,hs⟩])
    have HS:=hid hs
    clear hs y hz
    go_wp2_with (go_at_call 170;refine(d_symbol 32 T _ H3.out H1.out).mono ?_;rintro e w2 ⟨rfl,h1,h2,h3⟩;rw[HS.out];have e1:co none= -1:=rfl;rw[e1];have K2:=hid (gb_trans H2.out h2);have K3:=hid h3;clear h1 h2 h3 e1)
    go_ret
    exact⟨by rw[HXE.out];rfl,by rw[HXE.out];exact H1.out,K2.out,K3.out⟩
   |some b=>
    have HXE:=hid (show X=brD E.L (Ee E.L E.l) n.kids 32 33 T by rw[HX.out,if_neg (fun h=>by rw[hs]at h;cases h.2.2)])
    have HS:=hid hs
    have O:((b:Int)== -1)=false:=by rw[beq_eq_false_iff_ne];omega
    clear hs y hz
    go_wp2_with (go_at_call 170;refine(d_symbol 32 T _ H3.out H1.out).mono ?_;rintro e w2 ⟨rfl,h1,h2,h3⟩;rw[HS.out];have e1:co (some b)=(b:Int):=rfl;rw[e1];have K2:=hid (gb_trans H2.out h2);have K3:=hid h3;obtain⟨V,P,J,I,S⟩:=(N1.go h2 HNE.out).c;clear h1 h2 h3 e1)
    refine(d_list n ak ck 32 33 i T _ HG.out HK.out HE.out K3.out H1.out).mono ?_
    rintro e w3 ⟨rfl,h1,h2,h3⟩
    rw[←HXE.out]at h1⊢
    have M1:=hid h1
    have M2:=hid (gb_trans K2.out h2)
    have M3:=hid h3
    clear h1 h2 h3
    go_wp2
    go_ret
    exact⟨rfl,M1.out,M2.out,M3.out⟩
  ·have HXE:=hid (show X=brD E.L (Ee E.L E.l) n.kids 32 33 T by rw[HX.out,if_neg (fun h=>by rw[h.2.1]at hz;exact hz rfl)])
   have F:((n.kids.length:Int)==0)=false:=by rw[beq_eq_false_iff_ne];omega
   clear hz
   go_wp2_with fail
   refine(d_list n ak ck 32 33 i T _ HG.out HK.out HE.out H3.out H1.out).mono ?_
   rintro e w3 ⟨rfl,h1,h2,h3⟩
   rw[←HXE.out]at h1⊢
   have M1:=hid h1
   have M2:=hid (gb_trans H2.out h2)
   have M3:=hid h3
   clear h1 h2 h3
   go_wp2
   go_ret
   exact⟨rfl,M1.out,M2.out,M3.out⟩
 ·have HXE:=hid (show X=brD E.L (Ee E.L E.l) n.kids 32 33 T by rw[HX.out,if_neg (fun h=>hl (by rw[←HLEQ.out];exact h.1))])
  have K:(n.s.toList==[108,101,110,103,116,104])=false:=Bool.eq_false_iff.2 hl
  clear hl
  go_wp2_with fail
  refine(d_list n ak ck 32 33 i T _ HG.out HK.out HE.out H3.out H1.out).mono ?_
  rintro e w3 ⟨rfl,h1,h2,h3⟩
  rw[←HXE.out]at h1⊢
  have M1:=hid h1
  have M2:=hid (gb_trans H2.out h2)
  have M3:=hid h3
  clear h1 h2 h3
  go_wp2
  go_ret
  exact⟨rfl,M1.out,M2.out,M3.out⟩
set_option maxHeartbeats 1600000 in
theorem d_in{E:En}(n:Nd)(ak:Option Addr)(ck:Nat)(i:Nat)(p:Ps)(a:Option Nat)(w:World)(hG:et.Good E.l i n)(hk:Ints E.W0.heap.size E.W0 ak n.kids)(hE:∀j,j<n.kids.length→EC E (kd n j))(hd:Dr E w)(ha:In E.L a)(hp:posOk p.l p.d=true)(hl:0<n.kids.length):
  Calls Tryz.prog 172 #[.pointer (some ⟨E.bd,0,none⟩),.agg #[.int .i64 n.k,.int .i64 n.op,.string n.s,.string n.t,.slice ak n.kids.length ck],.int .i64 (co a),.agg #[.int .i64 p.l,.bool p.d,.bool p.i,.bool p.g,.bool p.s]] w (DOut E (tkn E.L 6 n.s (sym E.L 24 (if 1<n.kids.length then brD E.L (Ee E.L E.l) n.kids 32 33 a else kidD (Ee E.L E.l) n 0 p a))) w):=by
 have HE:=hid hE
 have HA:=hid ha
 have HP:=hid hp
 have HG:=hid hG
 have HK:=hid hk
 obtain⟨W,hW⟩:∃W,W=(w.alloc (.cells #[.int .i64 n.k,.int .i64 n.op,.string n.s,.string n.t,.slice ak n.kids.length ck] 57)).alloc (.cells #[.int .i64 p.l,.bool p.d,.bool p.i,.bool p.g,.bool p.s] 26):=⟨_,rfl⟩
 have hbel:Below w.heap.size w W:=by rw[hW];exact((Below.refl _ _).alloc (Nat.le_refl _) _).alloc (by simp) _
 have HN:=hid (show NBx W w.heap.size n ak ck by rw[hW];exact(two_boxes w _ _).1)
 have HB:=hid (show PBx W (w.heap.size+1) p by rw[hW];exact(two_boxes w _ _).2)
 have HD:=hid (hd.over hbel)
 have HGB:=hid (gb_bel (m:=E.mb) hbel)
 have HNE:=hid (show w.heap.size≠E.mb from fun e=>by have:=hd.memo.lt;omega)
 have F:=hid (show w.heap.size+1≠E.mb from fun e=>by have:=hd.memo.lt;omega)
 have n0:=HN.c
 have p0:=HB.c
 have HLEN:=hid hl
 clear hd ha hE hG hk hbel hp hl
 by_cases h1l:1<n.kids.length
 ·have y:(1:Int)<(n.kids.length:Int):=by omega
  rw[if_pos h1l]
  clear h1l
  go_enter Tryz.func172,Tryz.ntmps172
  go_wp2_with fail
  rw[←hW]
  clear hW
  refine(d_list n ak ck 32 33 i a _ HG.out HK.out HE.out HD.out HA.out).mono ?_
  rintro e w1 ⟨rfl,h1,h2,h3⟩
  have H1:=hid h1
  have H2:=hid (gb_trans HGB.out h2)
  have H3:=hid h3
  have N1:=hid (HN.go h2 HNE.out)
  clear h1 h2 h3 n0 p0
  have n0:=N1.c
  go_wp2
  go_region_law (first
   |(go_simp;go_at_call 170;refine(d_symbol 24 _ _ (by first|exact H3.out|exact H3.drew) H1.out).mono ?_;rintro e w2 ⟨rfl,h1,h2,h3⟩;have K1:=hid h1;have K2:=hid (gb_trans H2.out (gb_trans (gb_bel (by first|exact Below.refl _ _|exact(Below.refl _ _).drew)) h2));have K3:=hid h3;have KN:NBx w2 w.heap.size n ak ck:=(by first|exact N1.go h2 HNE.out|exact(N1.on (Below.refl _ _).drew).go h2 HNE.out);obtain⟨m0,m1,m2,m3,m4⟩:=KN.c;clear h1 h2 h3)
   |(go_simp;go_at_call 166;refine(d_token 6 n.s _ _ (by first|exact K3.out|exact K3.drew) K1.out).mono ?_;rintro e w3 ⟨rfl,h1,h2,h3⟩;have M1:=hid h1;have M2:=hid (gb_trans K2.out (gb_trans (gb_bel (by first|exact Below.refl _ _|exact(Below.refl _ _).drew)) h2));have M3:=hid h3;clear h1 h2 h3))
  all_goals
   go_wp2
   go_ret
   exact⟨rfl,M1.out,M2.out,M3.out⟩
 ·have y:¬(1:Int)<(n.kids.length:Int):=by omega
  rw[if_neg h1l]
  clear h1l
  go_enter Tryz.func172,Tryz.ntmps172
  go_wp2_with fail
  rw[←hW]
  clear hW
  refine(d_kid n ak ck 0 0 rfl i p a _ HLEN.out HG.out HK.out (HE.out 0 HLEN.out) HD.out HA.out HP.out).mono ?_
  rintro e w1 ⟨rfl,h1,h2,h3⟩
  have H1:=hid h1
  have H2:=hid (gb_trans HGB.out h2)
  have H3:=hid h3
  have N1:=hid (HN.go h2 HNE.out)
  clear h1 h2 h3 n0 p0
  have n0:=N1.c
  go_wp2
  go_region_law (first
   |(go_simp;go_at_call 170;refine(d_symbol 24 _ _ (by first|exact H3.out|exact H3.drew) H1.out).mono ?_;rintro e w2 ⟨rfl,h1,h2,h3⟩;have K1:=hid h1;have K2:=hid (gb_trans H2.out (gb_trans (gb_bel (by first|exact Below.refl _ _|exact(Below.refl _ _).drew)) h2));have K3:=hid h3;have KN:NBx w2 w.heap.size n ak ck:=(by first|exact N1.go h2 HNE.out|exact(N1.on (Below.refl _ _).drew).go h2 HNE.out);obtain⟨m0,m1,m2,m3,m4⟩:=KN.c;clear h1 h2 h3)
   |(go_simp;go_at_call 166;refine(d_token 6 n.s _ _ (by first|exact K3.out|exact K3.drew) K1.out).mono ?_;rintro e w3 ⟨rfl,h1,h2,h3⟩;have M1:=hid h1;have M2:=hid (gb_trans K2.out (gb_trans (gb_bel (by first|exact Below.refl _ _|exact(Below.refl _ _).drew)) h2));have M3:=hid h3;clear h1 h2 h3))
  all_goals
   go_wp2
   go_ret
   exact⟨rfl,M1.out,M2.out,M3.out⟩
set_option maxHeartbeats 1600000 in
theorem d_cond{E:En}(n:Nd)(ak:Option Addr)(ck:Nat)(i:Nat)(p:Ps)(a:Option Nat)(w:World)(hG:et.Good E.l i n)(hk:Ints E.W0.heap.size E.W0 ak n.kids)(hE:∀j,j<n.kids.length→EC E (kd n j))(hd:Dr E w)(ha:In E.L a)(hp:posOk p.l p.d=true)(hl:n.kids.length=3):
  Calls Tryz.prog 173 #[.pointer (some ⟨E.bd,0,none⟩),.agg #[.int .i64 n.k,.int .i64 n.op,.string n.s,.string n.t,.slice ak n.kids.length ck],.int .i64 (co a),.agg #[.int .i64 p.l,.bool p.d,.bool p.i,.bool p.g,.bool p.s]] w (DOut E (kidD (Ee E.L E.l) n 2 p (sym E.L 66 (kidD (Ee E.L E.l) n 1 p (sym E.L 65 (kidD (Ee E.L E.l) n 0 p a))))) w):=by
 have HE:=hid hE
 have HA:=hid ha
 have HP:=hid hp
 have HG:=hid hG
 have HK:=hid hk
 obtain⟨W,hW⟩:∃W,W=(w.alloc (.cells #[.int .i64 n.k,.int .i64 n.op,.string n.s,.string n.t,.slice ak n.kids.length ck] 57)).alloc (.cells #[.int .i64 p.l,.bool p.d,.bool p.i,.bool p.g,.bool p.s] 26):=⟨_,rfl⟩
 have hbel:Below w.heap.size w W:=by rw[hW];exact((Below.refl _ _).alloc (Nat.le_refl _) _).alloc (by simp) _
 have HN:=hid (show NBx W w.heap.size n ak ck by rw[hW];exact(two_boxes w _ _).1)
 have HB:=hid (show PBx W (w.heap.size+1) p by rw[hW];exact(two_boxes w _ _).2)
 have HD:=hid (hd.over hbel)
 have HGB:=hid (gb_bel (m:=E.mb) hbel)
 have HNE:=hid (show w.heap.size≠E.mb from fun e=>by have:=hd.memo.lt;omega)
 have y:=hid (show w.heap.size+1≠E.mb from fun e=>by have:=hd.memo.lt;omega)
 have n0:=HN.c
 have p0:=HB.c
 have HLEN:=hid hl
 clear hd ha hE hG hk hbel hp hl
 go_enter Tryz.func173,Tryz.ntmps173
 go_wp2_with fail
 rw[←hW]
 clear hW
 refine(d_kid n ak ck 0 0 rfl i p a _ (by have:=HLEN.out;omega) HG.out HK.out (HE.out 0 (by have:=HLEN.out;omega)) HD.out HA.out HP.out).mono ?_
 rintro e wC ⟨rfl,h1,h2,h3⟩
 have C1:=hid h1
 have C2:=hid (gb_trans HGB.out h2)
 have C3:=hid h3
 have NC:=hid (HN.go h2 HNE.out)
 have BC:=hid (HB.go h2 y.out)
 clear h1 h2 h3 n0 p0
 go_wp2_with fail
 refine(d_symbol 65 _ _ C3.out C1.out).mono ?_
 rintro e wF ⟨rfl,h1,h2,h3⟩
 have F1:=hid h1
 have F2:=hid (gb_trans C2.out h2)
 have F3:=hid h3
 have NF:=hid (NC.go h2 HNE.out)
 have BF:=hid (BC.go h2 y.out)
 clear h1 h2 h3
 have n0:=NF.c
 have p0:=BF.c
 go_wp2_with fail
 refine(d_kid n ak ck 1 1 rfl i p _ _ (by have:=HLEN.out;omega) HG.out HK.out (HE.out 1 (by have:=HLEN.out;omega)) F3.out F1.out HP.out).mono ?_
 rintro e wH ⟨rfl,h1,h2,h3⟩
 have H1:=hid h1
 have H2:=hid (gb_trans F2.out h2)
 have H3:=hid h3
 have NH:=hid (NF.go h2 HNE.out)
 have BH:=hid (BF.go h2 y.out)
 clear h1 h2 h3 n0 p0
 go_wp2_with fail
 refine(d_symbol 66 _ _ H3.out H1.out).mono ?_
 rintro e wI ⟨rfl,h1,h2,h3⟩
 have I1:=hid h1
 have I2:=hid (gb_trans H2.out h2)
 have I3:=hid h3
 have NI:=hid (NH.go h2 HNE.out)
 have BI:=hid (BH.go h2 y.out)
 clear h1 h2 h3
 have n0:=NI.c
 have p0:=BI.c
 go_wp2_with fail
 refine(d_kid n ak ck 2 2 rfl i p _ _ (by have:=HLEN.out;omega) HG.out HK.out (HE.out 2 (by have:=HLEN.out;omega)) I3.out I1.out HP.out).mono ?_
 rintro e wJ ⟨rfl,h1,h2,h3⟩
 have J1:=hid h1
 have J2:=hid (gb_trans I2.out h2)
 have J3:=hid h3
 clear h1 h2 h3
 go_wp2
 go_ret
 exact⟨rfl,J1.out,J2.out,J3.out⟩
set_option maxHeartbeats 1600000 in
theorem d_binary{E:En}(n:Nd)(ak:Option Addr)(ck:Nat)(i:Nat)(p:Ps)(a:Option Nat)(w:World)(hG:et.Good E.l i n)(hk:Ints E.W0.heap.size E.W0 ak n.kids)(hE:∀j,j<n.kids.length→EC E (kd n j))(hd:Dr E w)(ha:In E.L a)(hp:posOk p.l p.d=true)(hl:n.kids.length=2):
  Calls Tryz.prog 174 #[.pointer (some ⟨E.bd,0,none⟩),.agg #[.int .i64 n.k,.int .i64 n.op,.string n.s,.string n.t,.slice ak n.kids.length ck],.int .i64 (co a),.agg #[.int .i64 p.l,.bool p.d,.bool p.i,.bool p.g,.bool p.s]] w (DOut E (kidD (Ee E.L E.l) n 1 p (opD E.L n.op (kidD (Ee E.L E.l) n 0 p a))) w):=by
 have HE:=hid hE
 have HA:=hid ha
 have HP:=hid hp
 have HG:=hid hG
 have HK:=hid hk
 obtain⟨W,hW⟩:∃W,W=(w.alloc (.cells #[.int .i64 n.k,.int .i64 n.op,.string n.s,.string n.t,.slice ak n.kids.length ck] 57)).alloc (.cells #[.int .i64 p.l,.bool p.d,.bool p.i,.bool p.g,.bool p.s] 26):=⟨_,rfl⟩
 have hbel:Below w.heap.size w W:=by rw[hW];exact((Below.refl _ _).alloc (Nat.le_refl _) _).alloc (by simp) _
 have HN:=hid (show NBx W w.heap.size n ak ck by rw[hW];exact(two_boxes w _ _).1)
 have HB:=hid (show PBx W (w.heap.size+1) p by rw[hW];exact(two_boxes w _ _).2)
 have HD:=hid (hd.over hbel)
 have HGB:=hid (gb_bel (m:=E.mb) hbel)
 have HNE:=hid (show w.heap.size≠E.mb from fun e=>by have:=hd.memo.lt;omega)
 have y:=hid (show w.heap.size+1≠E.mb from fun e=>by have:=hd.memo.lt;omega)
 have n0:=HN.c
 have p0:=HB.c
 have HLEN:=hid hl
 clear hd ha hE hG hk hbel hp hl
 go_enter Tryz.func174,Tryz.ntmps174
 go_wp2
 rw[←hW]
 clear hW
 go_region_law (first
  |(go_simp;go_at_call 169;refine(d_kid n ak ck 0 0 rfl i p a _ (by have:=HLEN.out;omega) HG.out HK.out (HE.out 0 (by have:=HLEN.out;omega)) (by first|exact HD.out|exact HD.drew) HA.out HP.out).mono ?_;rintro e w2 ⟨rfl,h1,h2,h3⟩;have K1:=hid h1;have K2:=hid (gb_trans HGB.out (gb_trans (gb_bel (by first|exact Below.refl _ _|exact(Below.refl _ _).drew)) h2));have K3:=hid h3;have KN:=hid (show NBx w2 w.heap.size n ak ck by first|exact HN.go h2 HNE.out|exact(HN.on (Below.refl _ _).drew).go h2 HNE.out);have KB:=hid (show PBx w2 (w.heap.size+1) p by first|exact HB.go h2 y.out|exact(HB.on (Below.refl _ _).drew).go h2 y.out);obtain⟨m0,m1,m2,m3,m4⟩:=KN.c;clear h1 h2 h3)
  |(go_simp;go_at_call 214;refine(d_operator n.op _ _ (by first|exact K3.out|exact K3.drew) K1.out).mono ?_;rintro e w3 ⟨rfl,h1,h2,h3⟩;have M1:=hid h1;have M2:=hid (gb_trans K2.out (gb_trans (gb_bel (by first|exact Below.refl _ _|exact(Below.refl _ _).drew)) h2));have M3:=hid h3;have MN:=hid (show NBx w3 w.heap.size n ak ck by first|exact KN.go h2 HNE.out|exact(KN.on (Below.refl _ _).drew).go h2 HNE.out);have MB:=hid (show PBx w3 (w.heap.size+1) p by first|exact KB.go h2 y.out|exact(KB.on (Below.refl _ _).drew).go h2 y.out);clear h1 h2 h3))
 all_goals
  clear n0 p0
  have n0:=MN.c
  have p0:=MB.c
  go_wp2_with fail
  refine(d_kid n ak ck 1 1 rfl i p _ _ (by have:=HLEN.out;omega) HG.out HK.out (HE.out 1 (by have:=HLEN.out;omega)) M3.out M1.out HP.out).mono ?_
  rintro e wJ ⟨rfl,h1,h2,h3⟩
  have J1:=hid h1
  have J2:=hid (gb_trans M2.out h2)
  have J3:=hid h3
  clear h1 h2 h3
  go_wp2
  go_ret
  exact⟨rfl,J1.out,J2.out,J3.out⟩
end Go.Proofs.YtnoagleifffkcaaGreatDoor.dm
