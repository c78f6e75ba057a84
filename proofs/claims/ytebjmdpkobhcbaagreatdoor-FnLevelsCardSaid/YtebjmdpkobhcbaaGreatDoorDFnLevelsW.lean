/- A part of the proof; no condition of its own. -/
import Derived.Test.YtebjmdpkobhcbaaGreatDoorCards
import Derived.Test.YtebjmdpkobhcbaaGreatDoorTie
import Derived.Test.YtebjmdpkobhcbaaGreatDoorDGSp
import Derived.Test.YtebjmdpkobhcbaaGreatDoorDGDa
import Derived.Test.YtebjmdpkobhcbaaGreatDoorDGPj
import Derived.Test.YtebjmdpkobhcbaaGreatDoorDLevelsMath
import Derived.Test.YtebjmdpkobhcbaaGreatDoorDSameTree
import Derived.OpenVars
import Derived.Deep.DeepHandedRow
import Derived.Deep.RegionHeld3
import Derived.Laws.StructEq
import Derived.Lib.SmallJoins
import Derived.Stop.LaidErr
namespace Go.Proofs.YtebjmdpkobhcbaaGreatDoor.lawLevels
open Lib (hid)
open Go.ChangeShapes Go.WideShapes Go.ChangeAt Go.RowKit
open spell (Held held)
open nd (Nd PT)
open draw (IsRow)
open pe (readF)
open lv (opLevel opSpell)
open pr (ROut impl_read)
set_option linter.unusedVariables false
set_option linter.unusedSimpArgs false
set_option maxRecDepth 20000
theorem small_len{t:List Nd}(h:small t=true):t.length≤1048576∧∀n∈t,n.kids.length≤1048576:=by
 unfold small at h
 rw[Bool.and_eq_true,decide_eq_true_eq,List.all_eq_true]at h
 exact⟨by omega,fun n hn=>by have:=h.2 n hn;rw[decide_eq_true_eq]at this;omega⟩
structure Rd(t:List Nd)(v:Value)(w:World):Prop where
 lies:∃a c,v= .slice a t.length c∧nd.Lies w.heap.size w a t
theorem Rd.of{B:Nat}{t:List Nd}{v:Value}{z:List (Nd×Value)}{r:Nat→Nat}{w:World}(h:PT B v z r w)(hz:z.map (·.1)=t):Rd t v w:=by
 obtain⟨a,c,rfl⟩:=h.form
 have hl:z.length=t.length:=by rw[←hz,List.length_map]
 exact⟨a,c,by rw[hl],by rw[←hz];exact h.lies⟩
theorem Rd.keep{t:List Nd}{v:Value}{w w':World}(h:Rd t v w)(hb:Below w.heap.size w w'):Rd t v w':=by
 obtain⟨a,c,e,hl⟩:=h.lies
 exact⟨a,c,e,hl.on hb (Nat.le_refl _)⟩
theorem Rd.at{t:List Nd}{a:Option Addr}{n c:Nat}{w:World}(h:Rd t (.slice a n c) w):nd.Lies w.heap.size w a t:=by
 obtain⟨a',c',e,hl⟩:=h.lies
 injection e with e1 e2 e3
 subst e1
 exact hl
set_option maxHeartbeats 12800000 in
theorem core{a:Option Addr}{len cap:Nat}{zs:List Int}{w:World}(hc:draw.Code w.heap.size w a len zs)(hl:len≤1048576)(hh:Held w):
  Calls Tryz.prog 4 #[.slice a len cap] w fun e w'=>e= .returned (.bool true)∧Below w.heap.size w w':=by
 have hbig:decide (1048576<len)=false:=by simp;omega
 have HAT:=hid (fun k (hk:k≤10) w2 (hb:Below w.heap.size w w2)=>draw.at_code (a:=a) (len:=len) (zs:=zs) (cap:=cap) k hk w2 ((hc.keep hb).up hb.size) hl)
 have HH:=hid hh
 clear hc hh
 go_enter Tryz.func4,Tryz.ntmps4
 go_wp2_with fail
 refine(draw.big_any a len cap _ (by omega)).mono ?_
 rw[hbig]
 rintro e w0 ⟨rfl,rfl⟩
 obtain⟨W1,aI⟩:∃W1,W1=w.alloc (.cells #[.int .i64 60,.int .i64 57,.int .i64 58,.int .i64 59,.int .i64 55,.int .i64 56,.int .i64 63,.int .i64 47,.int .i64 49,.int .i64 67,.int .i64 46,.int .i64 45,.int .i64 44] 3):=⟨_,rfl⟩
 have B1:=hid (show Below w.heap.size w W1 by rw[aI];exact(Below.refl _ _).alloc (Nat.le_refl _) _)
 have hcell:∀A:Nat,A<13→W1.cell? ⟨w.heap.size,A,none⟩=some (.int .i64 (opsL.getD A 0)):=by
  intro A hA
  have hr:=heap_alloc_new w (.cells #[.int .i64 60,.int .i64 57,.int .i64 58,.int .i64 59,.int .i64 55,.int .i64 56,.int .i64 63,.int .i64 47,.int .i64 49,.int .i64 67,.int .i64 46,.int .i64 45,.int .i64 44] 3)
  rw[aI,cell_of_row _ _ _ _ _ _ hr]
  rcases(show A=0∨A=1∨A=2∨A=3∨A=4∨A=5∨A=6∨A=7∨A=8∨A=9∨A=10∨A=11∨A=12 by omega)with rfl|rfl|rfl|rfl|rfl|rfl|rfl|rfl|rfl|rfl|rfl|rfl|rfl<;>rfl
 have HCELL:=hid hcell
 have bl:=hid (show W1.heap.size=w.heap.size+1 by rw[aI];simp)
 clear hcell
 go_wp2_with fail
 rw[←aI]
 clear aI
 refine(HAT.out 0 (by omega) _ B1.out).mono ?_
 rintro e w2 ⟨⟨X,hX,rfl⟩,rfl⟩
 obtain⟨A,hA⟩:∃A:Nat,A=X%13:=⟨_,rfl⟩
 have e1:(X:Int).tmod 13=(A:Int):=by rw[Int.tmod_eq_emod_of_nonneg (by omega)];omega
 have e2:(X:Int)%13=(A:Int):=by omega
 have aM:A<13:=by omega
 have q0:(0:Int)≤(A:Int):=by omega
 have q1:(A:Int)<13:=by omega
 have cA:=HCELL.out A aM
 obtain⟨va,hva⟩:∃va,va=opsL.getD A 0:=⟨_,rfl⟩
 rw[←hva]at cA
 have HVA:=hid hva
 clear hX hA hva
 go_wp2_with fail
 clear cA e1 e2 q0 q1
 refine(HAT.out 1 (by omega) _ B1.out).mono ?_
 rintro e w2 ⟨⟨X,hX,rfl⟩,rfl⟩
 obtain⟨B,hB⟩:∃B:Nat,B=X%13:=⟨_,rfl⟩
 have e1:(X:Int).tmod 13=(B:Int):=by rw[Int.tmod_eq_emod_of_nonneg (by omega)];omega
 have e2:(X:Int)%13=(B:Int):=by omega
 have aP:B<13:=by omega
 have q0:(0:Int)≤(B:Int):=by omega
 have q1:(B:Int)<13:=by omega
 have cB:=HCELL.out B aP
 obtain⟨vb,hvb⟩:∃vb,vb=opsL.getD B 0:=⟨_,rfl⟩
 rw[←hvb]at cB
 have hr:=right_all aM aP
 rw[←HVA.out,←hvb]at hr
 have HR:=hid hr
 clear hX hB hvb hr HVA
 go_wp2_with fail
 clear cB e1 e2 q0 q1 aM aP HCELL
 refine(lv.impl_op va _).mono ?_
 rintro e w3 ⟨rfl,b3⟩
 have B3:=hid (B1.trans (b3.mono B1.size))
 clear b3
 go_wp2_with fail
 refine(lv.impl_op vb _).mono ?_
 rintro e w4 ⟨rfl,b4⟩
 have B4:=hid (B3.trans (b4.mono B3.size))
 clear b4
 have hr:=HR.out
 unfold right at hr
 simp only[Bool.and_eq_true,decide_eq_true_eq]at hr
 obtain⟨z1,z2,z3,za,y1,y2,y3,hr⟩:=hr
 have Y1:=hid (small_len y1)
 have Y2:=hid (small_len y2)
 have Y3:=hid (small_len y3)
 have HX:=hid hr
 clear y1 y2 y3 hr HR
 have R1:=hid (fun w2 aJ=>impl_read (s1 va vb) w2 (by omega) aJ)
 have R2:=hid (fun w2 aJ=>impl_read (s2 va vb) w2 (by omega) aJ)
 have R3:=hid (fun w2 aJ=>impl_read (s3 va vb) w2 (by omega) aJ)
 obtain⟨O1,aZ⟩:∃O,readF (s1 va vb)=O:=⟨_,rfl⟩
 obtain⟨O2,aY⟩:∃O,readF (s2 va vb)=O:=⟨_,rfl⟩
 obtain⟨O3,ba⟩:∃O,readF (s3 va vb)=O:=⟨_,rfl⟩
 rw[aZ]at R1 HX Y1
 rw[aY]at R2 HX Y2
 rw[ba]at R3 HX Y3
 clear aZ aY ba
 have HSA:=hid (fun w2 (hb:Below w.heap.size w w2)=>lv.impl_opSpell va w2 (HH.below hb))
 have HSB:=hid (fun w2 (hb:Below w.heap.size w w2)=>lv.impl_opSpell vb w2 (HH.below hb))
 have E1:((((⟨#[120,32]⟩:ByteArray)++opSpell va)++⟨#[32,121,32]⟩)++opSpell vb)++⟨#[32,122]⟩=s1 va vb:=rfl
 have E2:((((⟨#[40,120,32]⟩:ByteArray)++opSpell va)++⟨#[32,121,41,32]⟩)++opSpell vb)++⟨#[32,122]⟩=s2 va vb:=rfl
 have E3:((((⟨#[120,32]⟩:ByteArray)++opSpell va)++⟨#[32,40,121,32]⟩)++opSpell vb)++⟨#[32,122,41]⟩=s3 va vb:=rfl
 have aK:=z1
 unfold s1 at aK
 simp only[ByteArray.size_append]at aK
 have bh:(⟨#[120,32]⟩:ByteArray).size=2:=rfl
 have bk:(⟨#[32,121,32]⟩:ByteArray).size=3:=rfl
 have bj:(⟨#[32,122]⟩:ByteArray).size=2:=rfl
 have zb:(opSpell vb).size≤1000:=by omega
 obtain⟨S1,bf⟩:∃S,s1 va vb=S:=⟨_,rfl⟩
 obtain⟨S2,bb⟩:∃S,s2 va vb=S:=⟨_,rfl⟩
 obtain⟨S3,aX⟩:∃S,s3 va vb=S:=⟨_,rfl⟩
 rw[bf]at E1 R1
 rw[bb]at E2 R2
 rw[aX]at E3 R3
 have aU:=hid E1
 have aH:=hid E2
 have aG:=hid E3
 clear E1 E2 E3 bf bb aX z1 z2 z3 aK bh bk bj
 obtain⟨p,hp⟩:∃p,opSpell va=p:=⟨_,rfl⟩
 obtain⟨q,hq⟩:∃q,opSpell vb=q:=⟨_,rfl⟩
 obtain⟨x,hx⟩:∃x,opLevel va=x:=⟨_,rfl⟩
 obtain⟨y,hy⟩:∃y,opLevel vb=y:=⟨_,rfl⟩
 rw[hp]at aU aH aG HSA HX za
 rw[hq]at aU aH aG HSB zb
 rw[hx,hy]at HX
 rw[hx,hy]
 clear hp hq hx hy
 go_wp2_with fail
 refine(HSA.out _ B4.out).mono ?_
 rintro e w5 ⟨rfl,b5⟩
 have B5:=hid (B4.trans (b5.mono B4.size))
 clear b5
 go_wp2_with fail
 refine(HSB.out _ B5.out).mono ?_
 rintro e w6 ⟨rfl,b6⟩
 have B6:=hid (B5.trans (b6.mono B5.size))
 clear b6
 go_wp2_with fail
 rw[aU.out]
 refine(R1.out _ (HH.below B6.out)).mono ?_
 rintro e w7 ⟨v1,z1,r1,rfl,be,bg,b7⟩
 have D1:=hid (Rd.of bg be)
 have B7:=hid (B6.trans (b7.mono B6.size))
 clear b7 bg be
 obtain⟨f,bm,bc,bd⟩:=O1
 obtain⟨W7,ab⟩:∃W,W=w7.alloc (.cells #[.int .i64 bc,.int .i64 bd] 28):=⟨_,rfl⟩
 have X7:=hid (show pr.Bk w7.heap.size #[.int .i64 bc,.int .i64 bd] 28 W7 by rw[ab];exact pr.Bk.new _ _ _)
 have C7:=hid (show Below w7.heap.size w7 W7 by rw[ab];exact(Below.refl _ _).alloc (Nat.le_refl _) _)
 have BA:=hid (show Below w.heap.size w W7 from B7.trans (C7.mono B7.size))
 have D7:=hid (D1.keep C7.out)
 obtain⟨a1,c1,rfl,-⟩:=D7.lies
 have Q7:=hid X7.c2
 rw[ab]at Q7
 have hr:=HX.out
 clear HX
 by_cases hsm:same x y=true
 ·rw[if_pos hsm]at hr
  simp only[Bool.and_eq_true,decide_eq_true_eq,beq_iff_eq]at hr
  obtain⟨⟨rfl,rfl⟩,h0⟩:=hr
  unfold same at hsm
  rw[Bool.and_eq_true,Bool.or_eq_true,beq_iff_eq,beq_iff_eq,beq_iff_eq]at hsm
  obtain⟨rfl,h7⟩:=hsm
  have bn:=h0
  dsimp only
  rw[h0]
  obtain⟨y0,y1⟩:=Q7.out
  obtain⟨z,hz⟩:∃z:Int,z=5+(p.size:Int):=⟨_,rfl⟩
  rw[←hz]at ab X7 Q7 y0 y1⊢
  have s1:IntKind.i64.wrap (5+(p.size:Int))=z:=by rw[hz,IntKind.wrap_i64];omega
  have HZ:=hid (show∀W,Below W7.heap.size W7 W→W.cell? ⟨w7.heap.size,0,none⟩=some (.int .i64 3)∧W.cell? ⟨w7.heap.size,1,none⟩=some (.int .i64 z)from fun W hb=>(X7.keep hb).c2)
  have zz:(z==z)=true:=by simp
  clear hz
  rcases h7 with rfl|rfl
  all_goals
   go_wp2_with fail
   rw[←ab]
   clear ab Q7 y0 y1 zz
   have YB:=hid (HZ.out _ (show Below W7.heap.size W7 W7.drew from(Below.refl _ _).drew))
   go_region_held3 (fun w'=>w'.cell? ⟨w7.heap.size,0,none⟩=some (.int .i64 3)∧w'.cell? ⟨w7.heap.size,1,none⟩=some (.int .i64 z))
    (first|(with_reducible exact YB.out)|(with_reducible exact HZ.out _ B9.out))
    (first|(go_at_call 13;refine(HSA.out _ (show Below w.heap.size w _ from BA.drew)).mono ?_;rintro e w9 ⟨rfl,b9⟩;have B9:=hid (show Below W7.heap.size W7 w9 from⟨b9.os,b9.tape,b9.output,b9.size,b9.block⟩);clear b9))
   all_goals
    go_wp2
    go_ret
    exact⟨rfl,BA.trans (B9.mono BA.size)⟩
 ·rw[if_neg hsm]at hr
  simp only[Bool.and_eq_true,decide_eq_true_eq,beq_iff_eq]at hr
  obtain⟨rfl,h5,hr⟩:=hr
  dsimp only
  have au:=hid h5
  rw[h5]
  obtain⟨y0,y1⟩:=Q7.out
  have HHR:=hid hr
  clear h5 hr
  by_cases he:x=y
  ·subst he
   have n7:¬x=7:=fun h=>hsm (by rw[h];rfl)
   have n6:¬x=6:=fun h=>hsm (by rw[h];rfl)
   have q7:(x==7)=false:=by rw[beq_eq_false_iff_ne];exact n7
   have q6:(x==6)=false:=by rw[beq_eq_false_iff_ne];exact n6
   clear hsm n7 n6
   by_cases h60:va=60
   ·have HF:=hid (show¬first x x va=true by unfold first;rw[h60];simp)
    have bi:(va !=60)=false:=by rw[h60];rfl
    clear h60
    go_wp2_with fail
    rw[←ab]
    clear ab Q7 y0 y1
    refine(HSA.out _ BA.out).mono ?_
    rintro e w8 ⟨rfl,b8⟩
    have B8:=hid (BA.trans (b8.mono BA.size))
    have D8:=hid (D7.keep b8)
    clear b8
    go_wp2_with fail
    refine(HSB.out _ B8.out).mono ?_
    rintro e w9 ⟨rfl,b9⟩
    have B9:=hid (B8.trans (b9.mono B8.size))
    have D9:=hid (D8.keep b9)
    clear b9
    go_wp2_with fail
    rw[aH.out]
    refine(R2.out _ (HH.below B9.out)).mono ?_
    rintro e T ⟨v2,z2,r2,rfl,ak,aj,I⟩
    have am:=hid (Rd.of aj ak)
    have ah:=hid (B9.trans (I.mono B9.size))
    have aE:=hid (D9.keep I)
    clear I aj ak
    obtain⟨G,aL,a8,aw⟩:=O2
    obtain⟨a2,c2,rfl,-⟩:=am.lies
    obtain⟨aF,H⟩:∃W,W=T.alloc (.cells #[.int .i64 a8,.int .i64 aw] 28):=⟨_,rfl⟩
    have J:=hid (show Below T.heap.size T aF by rw[H];exact(Below.refl _ _).alloc (Nat.le_refl _) _)
    have N:=hid (ah.trans (J.mono ah.size))
    have aD:=hid (aE.keep J.out)
    have a4:=hid (am.keep J.out)
    dsimp only
    go_wp2_with fail
    rw[←H]
    clear H
    refine(HSA.out _ N.out).mono ?_
    rintro e aR ⟨rfl,u⟩
    have U:=hid (N.trans (u.mono N.size))
    have a6:=hid (aD.keep u)
    have av:=hid (a4.keep u)
    clear u
    go_wp2_with fail
    refine(HSB.out _ U.out).mono ?_
    rintro e aW ⟨rfl,F⟩
    have aa:=hid (U.trans (F.mono U.size))
    have ax:=hid (a6.keep F)
    have aA:=hid (av.keep F)
    clear F
    go_wp2_with fail
    rw[aG.out]
    refine(R3.out _ (HH.below aa.out)).mono ?_
    rintro e K ⟨v3,z3,r3,rfl,af,ad,C⟩
    have ai:=hid (Rd.of ad af)
    have ag:=hid (aa.trans (C.mono aa.size))
    have az:=hid (ax.keep C)
    have a5:=hid (aA.keep C)
    clear C ad af
    obtain⟨P,aS,ay,a9⟩:=O3
    obtain⟨a3,c3,rfl,-⟩:=ai.lies
    obtain⟨a0,Q⟩:∃W,W=K.alloc (.cells #[.int .i64 ay,.int .i64 a9] 28):=⟨_,rfl⟩
    have D:=hid (show Below K.heap.size K a0 by rw[Q];exact(Below.refl _ _).alloc (Nat.le_refl _) _)
    have ac:=hid (ag.trans (D.mono ag.size))
    have ae:=hid (az.keep D.out)
    have ao:=hid (a5.keep D.out)
    have ap:=hid (ai.keep D.out)
    dsimp only
    have hr:=HHR.out
    have j:=hr
    clear hr
    go_wp2_with fail
    rw[←Q]
    clear Q
    rw[if_neg HF.out]at j
    simp only[Bool.and_eq_true,Bool.not_eq_true',decide_eq_true_eq,decide_eq_false_iff_not]at j
    have a7:=hid (show decide (f=P)=true from decide_eq_true j.1)
    have aC:=hid (show decide (f=G)=false from decide_eq_false j.2)
    clear j
    have Z:=hid (nd.spec_same f P a1 a3 c1 c3 _ Y1.out.1 Y3.out.1 Y1.out.2 Y3.out.2 ae.at ap.at)
    rw[show decide (f=P)=true from a7.out,au.out]at Z
    refine Z.mono ?_
    clear Z
    rintro e aT ⟨rfl,o⟩
    have al:=hid (ac.trans (o.mono ac.size))
    have an:=hid (ae.keep o)
    have ar:=hid (ao.keep o)
    have aq:=hid (ap.keep o)
    clear o
    go_wp2_with fail
    have V:=hid (nd.spec_same f G a1 a2 c1 c2 _ Y1.out.1 Y2.out.1 Y1.out.2 Y2.out.2 an.at ar.at)
    rw[show decide (f=G)=false from aC.out,au.out]at V
    refine V.mono ?_
    clear V
    rintro e aQ ⟨rfl,m⟩
    have aB:=hid (al.trans (m.mono al.size))
    have aV:=hid (an.keep m)
    have aN:=hid (ar.keep m)
    have aO:=hid (aq.keep m)
    clear m
    go_wp2
    go_ret
    exact⟨rfl,aB.out⟩
   ·have HF:=hid (show first x x va=true by unfold first;simp[h60])
    have bi:(va !=60)=true:=by simp[h60]
    clear h60
    go_wp2_with fail
    rw[←ab]
    clear ab Q7 y0 y1
    refine(HSA.out _ BA.out).mono ?_
    rintro e w8 ⟨rfl,b8⟩
    have B8:=hid (BA.trans (b8.mono BA.size))
    have D8:=hid (D7.keep b8)
    clear b8
    go_wp2_with fail
    refine(HSB.out _ B8.out).mono ?_
    rintro e w9 ⟨rfl,b9⟩
    have B9:=hid (B8.trans (b9.mono B8.size))
    have D9:=hid (D8.keep b9)
    clear b9
    go_wp2_with fail
    rw[aH.out]
    refine(R2.out _ (HH.below B9.out)).mono ?_
    rintro e T ⟨v2,z2,r2,rfl,ak,aj,I⟩
    have am:=hid (Rd.of aj ak)
    have ah:=hid (B9.trans (I.mono B9.size))
    have aE:=hid (D9.keep I)
    clear I aj ak
    obtain⟨G,aL,a8,aw⟩:=O2
    obtain⟨a2,c2,rfl,-⟩:=am.lies
    obtain⟨aF,H⟩:∃W,W=T.alloc (.cells #[.int .i64 a8,.int .i64 aw] 28):=⟨_,rfl⟩
    have J:=hid (show Below T.heap.size T aF by rw[H];exact(Below.refl _ _).alloc (Nat.le_refl _) _)
    have N:=hid (ah.trans (J.mono ah.size))
    have aD:=hid (aE.keep J.out)
    have a4:=hid (am.keep J.out)
    dsimp only
    go_wp2_with fail
    rw[←H]
    clear H
    refine(HSA.out _ N.out).mono ?_
    rintro e aR ⟨rfl,u⟩
    have U:=hid (N.trans (u.mono N.size))
    have a6:=hid (aD.keep u)
    have av:=hid (a4.keep u)
    clear u
    go_wp2_with fail
    refine(HSB.out _ U.out).mono ?_
    rintro e aW ⟨rfl,F⟩
    have aa:=hid (U.trans (F.mono U.size))
    have ax:=hid (a6.keep F)
    have aA:=hid (av.keep F)
    clear F
    go_wp2_with fail
    rw[aG.out]
    refine(R3.out _ (HH.below aa.out)).mono ?_
    rintro e K ⟨v3,z3,r3,rfl,af,ad,C⟩
    have ai:=hid (Rd.of ad af)
    have ag:=hid (aa.trans (C.mono aa.size))
    have az:=hid (ax.keep C)
    have a5:=hid (aA.keep C)
    clear C ad af
    obtain⟨P,aS,ay,a9⟩:=O3
    obtain⟨a3,c3,rfl,-⟩:=ai.lies
    obtain⟨a0,Q⟩:∃W,W=K.alloc (.cells #[.int .i64 ay,.int .i64 a9] 28):=⟨_,rfl⟩
    have D:=hid (show Below K.heap.size K a0 by rw[Q];exact(Below.refl _ _).alloc (Nat.le_refl _) _)
    have ac:=hid (ag.trans (D.mono ag.size))
    have ae:=hid (az.keep D.out)
    have ao:=hid (a5.keep D.out)
    have ap:=hid (ai.keep D.out)
    dsimp only
    have hr:=HHR.out
    have j:=hr
    clear hr
    go_wp2_with fail
    rw[←Q]
    clear Q
    rw[if_pos HF.out]at j
    simp only[Bool.and_eq_true,Bool.not_eq_true',decide_eq_true_eq,decide_eq_false_iff_not]at j
    have aC:=hid (show decide (f=G)=true from decide_eq_true j.1)
    have a7:=hid (show decide (f=P)=false from decide_eq_false j.2)
    clear j
    have Z:=hid (nd.spec_same f G a1 a2 c1 c2 _ Y1.out.1 Y2.out.1 Y1.out.2 Y2.out.2 ae.at ao.at)
    rw[show decide (f=G)=true from aC.out,au.out]at Z
    refine Z.mono ?_
    clear Z
    rintro e aT ⟨rfl,o⟩
    have al:=hid (ac.trans (o.mono ac.size))
    have an:=hid (ae.keep o)
    have ar:=hid (ao.keep o)
    have aq:=hid (ap.keep o)
    clear o
    go_wp2_with fail
    have V:=hid (nd.spec_same f P a1 a3 c1 c3 _ Y1.out.1 Y3.out.1 Y1.out.2 Y3.out.2 an.at aq.at)
    rw[show decide (f=P)=false from a7.out,au.out]at V
    refine V.mono ?_
    clear V
    rintro e aQ ⟨rfl,m⟩
    have aB:=hid (al.trans (m.mono al.size))
    have aV:=hid (an.keep m)
    have aN:=hid (ar.keep m)
    have aO:=hid (aq.keep m)
    clear m
    go_wp2
    go_ret
    exact⟨rfl,aB.out⟩
  ·have qe:(x==y)=false:=by rw[beq_eq_false_iff_ne];exact he
   clear hsm
   by_cases hlt:y<x
   ·have HF:=hid (show first x y va=true by unfold first;simp[hlt])
    go_wp2_with fail
    rw[←ab]
    clear ab Q7 y0 y1
    refine(HSA.out _ BA.out).mono ?_
    rintro e w8 ⟨rfl,b8⟩
    have B8:=hid (BA.trans (b8.mono BA.size))
    have D8:=hid (D7.keep b8)
    clear b8
    go_wp2_with fail
    refine(HSB.out _ B8.out).mono ?_
    rintro e w9 ⟨rfl,b9⟩
    have B9:=hid (B8.trans (b9.mono B8.size))
    have D9:=hid (D8.keep b9)
    clear b9
    go_wp2_with fail
    rw[aH.out]
    refine(R2.out _ (HH.below B9.out)).mono ?_
    rintro e T ⟨v2,z2,r2,rfl,ak,aj,I⟩
    have am:=hid (Rd.of aj ak)
    have ah:=hid (B9.trans (I.mono B9.size))
    have aE:=hid (D9.keep I)
    clear I aj ak
    obtain⟨G,aL,a8,aw⟩:=O2
    obtain⟨a2,c2,rfl,-⟩:=am.lies
    obtain⟨aF,H⟩:∃W,W=T.alloc (.cells #[.int .i64 a8,.int .i64 aw] 28):=⟨_,rfl⟩
    have J:=hid (show Below T.heap.size T aF by rw[H];exact(Below.refl _ _).alloc (Nat.le_refl _) _)
    have N:=hid (ah.trans (J.mono ah.size))
    have aD:=hid (aE.keep J.out)
    have a4:=hid (am.keep J.out)
    dsimp only
    go_wp2_with fail
    rw[←H]
    clear H
    refine(HSA.out _ N.out).mono ?_
    rintro e aR ⟨rfl,u⟩
    have U:=hid (N.trans (u.mono N.size))
    have a6:=hid (aD.keep u)
    have av:=hid (a4.keep u)
    clear u
    go_wp2_with fail
    refine(HSB.out _ U.out).mono ?_
    rintro e aW ⟨rfl,F⟩
    have aa:=hid (U.trans (F.mono U.size))
    have ax:=hid (a6.keep F)
    have aA:=hid (av.keep F)
    clear F
    go_wp2_with fail
    rw[aG.out]
    refine(R3.out _ (HH.below aa.out)).mono ?_
    rintro e K ⟨v3,z3,r3,rfl,af,ad,C⟩
    have ai:=hid (Rd.of ad af)
    have ag:=hid (aa.trans (C.mono aa.size))
    have az:=hid (ax.keep C)
    have a5:=hid (aA.keep C)
    clear C ad af
    obtain⟨P,aS,ay,a9⟩:=O3
    obtain⟨a3,c3,rfl,-⟩:=ai.lies
    obtain⟨a0,Q⟩:∃W,W=K.alloc (.cells #[.int .i64 ay,.int .i64 a9] 28):=⟨_,rfl⟩
    have D:=hid (show Below K.heap.size K a0 by rw[Q];exact(Below.refl _ _).alloc (Nat.le_refl _) _)
    have ac:=hid (ag.trans (D.mono ag.size))
    have ae:=hid (az.keep D.out)
    have ao:=hid (a5.keep D.out)
    have ap:=hid (ai.keep D.out)
    dsimp only
    have hr:=HHR.out
    have j:=hr
    clear hr
    go_wp2_with fail
    rw[←Q]
    clear Q
    rw[if_pos HF.out]at j
    simp only[Bool.and_eq_true,Bool.not_eq_true',decide_eq_true_eq,decide_eq_false_iff_not]at j
    have aC:=hid (show decide (f=G)=true from decide_eq_true j.1)
    have a7:=hid (show decide (f=P)=false from decide_eq_false j.2)
    clear j
    have Z:=hid (nd.spec_same f G a1 a2 c1 c2 _ Y1.out.1 Y2.out.1 Y1.out.2 Y2.out.2 ae.at ao.at)
    rw[show decide (f=G)=true from aC.out,au.out]at Z
    refine Z.mono ?_
    clear Z
    rintro e aT ⟨rfl,o⟩
    have al:=hid (ac.trans (o.mono ac.size))
    have an:=hid (ae.keep o)
    have ar:=hid (ao.keep o)
    have aq:=hid (ap.keep o)
    clear o
    go_wp2_with fail
    have V:=hid (nd.spec_same f P a1 a3 c1 c3 _ Y1.out.1 Y3.out.1 Y1.out.2 Y3.out.2 an.at aq.at)
    rw[show decide (f=P)=false from a7.out,au.out]at V
    refine V.mono ?_
    clear V
    rintro e aQ ⟨rfl,m⟩
    have aB:=hid (al.trans (m.mono al.size))
    have aV:=hid (an.keep m)
    have aN:=hid (ar.keep m)
    have aO:=hid (aq.keep m)
    clear m
    go_wp2
    go_ret
    exact⟨rfl,aB.out⟩
   ·have HF:=hid (show¬first x y va=true by unfold first;simp[hlt,qe])
    go_wp2_with fail
    rw[←ab]
    clear ab Q7 y0 y1
    refine(HSA.out _ BA.out).mono ?_
    rintro e w8 ⟨rfl,b8⟩
    have B8:=hid (BA.trans (b8.mono BA.size))
    have D8:=hid (D7.keep b8)
    clear b8
    go_wp2_with fail
    refine(HSB.out _ B8.out).mono ?_
    rintro e w9 ⟨rfl,b9⟩
    have B9:=hid (B8.trans (b9.mono B8.size))
    have D9:=hid (D8.keep b9)
    clear b9
    go_wp2_with fail
    rw[aH.out]
    refine(R2.out _ (HH.below B9.out)).mono ?_
    rintro e T ⟨v2,z2,r2,rfl,ak,aj,I⟩
    have am:=hid (Rd.of aj ak)
    have ah:=hid (B9.trans (I.mono B9.size))
    have aE:=hid (D9.keep I)
    clear I aj ak
    obtain⟨G,aL,a8,aw⟩:=O2
    obtain⟨a2,c2,rfl,-⟩:=am.lies
    obtain⟨aF,H⟩:∃W,W=T.alloc (.cells #[.int .i64 a8,.int .i64 aw] 28):=⟨_,rfl⟩
    have J:=hid (show Below T.heap.size T aF by rw[H];exact(Below.refl _ _).alloc (Nat.le_refl _) _)
    have N:=hid (ah.trans (J.mono ah.size))
    have aD:=hid (aE.keep J.out)
    have a4:=hid (am.keep J.out)
    dsimp only
    go_wp2_with fail
    rw[←H]
    clear H
    refine(HSA.out _ N.out).mono ?_
    rintro e aR ⟨rfl,u⟩
    have U:=hid (N.trans (u.mono N.size))
    have a6:=hid (aD.keep u)
    have av:=hid (a4.keep u)
    clear u
    go_wp2_with fail
    refine(HSB.out _ U.out).mono ?_
    rintro e aW ⟨rfl,F⟩
    have aa:=hid (U.trans (F.mono U.size))
    have ax:=hid (a6.keep F)
    have aA:=hid (av.keep F)
    clear F
    go_wp2_with fail
    rw[aG.out]
    refine(R3.out _ (HH.below aa.out)).mono ?_
    rintro e K ⟨v3,z3,r3,rfl,af,ad,C⟩
    have ai:=hid (Rd.of ad af)
    have ag:=hid (aa.trans (C.mono aa.size))
    have az:=hid (ax.keep C)
    have a5:=hid (aA.keep C)
    clear C ad af
    obtain⟨P,aS,ay,a9⟩:=O3
    obtain⟨a3,c3,rfl,-⟩:=ai.lies
    obtain⟨a0,Q⟩:∃W,W=K.alloc (.cells #[.int .i64 ay,.int .i64 a9] 28):=⟨_,rfl⟩
    have D:=hid (show Below K.heap.size K a0 by rw[Q];exact(Below.refl _ _).alloc (Nat.le_refl _) _)
    have ac:=hid (ag.trans (D.mono ag.size))
    have ae:=hid (az.keep D.out)
    have ao:=hid (a5.keep D.out)
    have ap:=hid (ai.keep D.out)
    dsimp only
    have hr:=HHR.out
    have j:=hr
    clear hr
    go_wp2_with fail
    rw[←Q]
    clear Q
    rw[if_neg HF.out]at j
    simp only[Bool.and_eq_true,Bool.not_eq_true',decide_eq_true_eq,decide_eq_false_iff_not]at j
    have a7:=hid (show decide (f=P)=true from decide_eq_true j.1)
    have aC:=hid (show decide (f=G)=false from decide_eq_false j.2)
    clear j
    have Z:=hid (nd.spec_same f P a1 a3 c1 c3 _ Y1.out.1 Y3.out.1 Y1.out.2 Y3.out.2 ae.at ap.at)
    rw[show decide (f=P)=true from a7.out,au.out]at Z
    refine Z.mono ?_
    clear Z
    rintro e aT ⟨rfl,o⟩
    have al:=hid (ac.trans (o.mono ac.size))
    have an:=hid (ae.keep o)
    have ar:=hid (ao.keep o)
    have aq:=hid (ap.keep o)
    clear o
    go_wp2_with fail
    have V:=hid (nd.spec_same f G a1 a2 c1 c2 _ Y1.out.1 Y2.out.1 Y1.out.2 Y2.out.2 an.at ar.at)
    rw[show decide (f=G)=false from aC.out,au.out]at V
    refine V.mono ?_
    clear V
    rintro e aQ ⟨rfl,m⟩
    have aB:=hid (al.trans (m.mono al.size))
    have aV:=hid (an.keep m)
    have aN:=hid (ar.keep m)
    have aO:=hid (aq.keep m)
    clear m
    go_wp2
    go_ret
    exact⟨rfl,aB.out⟩
theorem walk(a:Option Addr)(len cap:Nat)(zs:List Int)(w:World)(hz:draw.IsRow .u8 w a len cap zs)(hh:Held w):
  Calls Tryz.prog 4 #[.slice a len cap] w fun e w'=>e= .returned (.bool true)∧Below w.heap.size w w':=by
 have hlm:len≤maxLen:=by
  rcases hz with ⟨_,rfl,_,_⟩|⟨x,_,hl,hm,_⟩
  ·exact Nat.zero_le _
  ·exact Nat.le_trans hl hm
 unfold maxLen at hlm
 by_cases hl:len≤1048576
 ·exact core (draw.code_of hz) hl hh
 ·have hbig:decide (1048576<len)=true:=by simp;omega
  clear hz
  go_enter Tryz.func4,Tryz.ntmps4
  go_wp2_with fail
  refine(draw.big_any a len cap _ (by omega)).mono ?_
  rw[hbig]
  rintro e w1 ⟨rfl,rfl⟩
  go_wp2
  go_ret
  exact⟨rfl,Below.refl _ _⟩
end Go.Proofs.YtebjmdpkobhcbaaGreatDoor.lawLevels
