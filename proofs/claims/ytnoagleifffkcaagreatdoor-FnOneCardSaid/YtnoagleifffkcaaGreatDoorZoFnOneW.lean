/-

-/
import Derived.Test.YtnoagleifffkcaaGreatDoorCards
import Derived.Test.YtnoagleifffkcaaGreatDoorTie
import Derived.Test.YtnoagleifffkcaaGreatDoorZoGSp
import Derived.Test.YtnoagleifffkcaaGreatDoorZoGDf
import Derived.Test.YtnoagleifffkcaaGreatDoorZoGDa
import Derived.Test.YtnoagleifffkcaaGreatDoorZoGDz
import Derived.Test.YtnoagleifffkcaaGreatDoorZoGSm
import Derived.OpenVars
import Derived.Deep.DeepHandedRow
import Derived.Deep.RegionHeld3
import Derived.Laws.StructEq
import Derived.Lib.SmallJoins
import Derived.Stop.LaidErr
namespace Go.Proofs.YtnoagleifffkcaaGreatDoor.lawOne
open Lib (hid)
open Go.ChangeShapes Go.WideShapes Go.ChangeAt Go.RowKit
open spell (Held held)
open nd (Nd)
open tk (Tk)
open ps (Ps B5 posOk top)
open draw (IsRow)
set_option linter.unusedVariables false
set_option linter.unusedSimpArgs false
set_option maxRecDepth 20000
set_option maxHeartbeats 6400000 in
theorem core{a:Option Addr}{len cap:Nat}{zs:List Int}{w:World}(hc:draw.Code w.heap.size w a len zs)(hl:len≤1048576)(hh:Held w):
  Calls Tryz.prog 3 #[.slice a len cap] w fun e w'=>e= .returned (.bool true)∧Below w.heap.size w w':=by
 have hbig:decide (1048576<len)=false:=by simp;omega
 have HDR:=hid (draw.drawExprTokens_anyD (cap:=cap) hc hl)
 have HFR:=hid (fun w2 (hb:Below w.heap.size w w2)=>draw.fresh_any (a:=a) (len:=len) (zs:=zs) (cap:=cap) (w:=w2) ((hc.keep hb).up hb.size) hl)
 have HH:=hid hh
 clear hc hh
 go_enter Tryz.func3,Tryz.ntmps3
 go_wp2_with fail
 refine(draw.big_any a len cap _ (by omega)).mono ?_
 rw[hbig]
 rintro e w0 ⟨rfl,rfl⟩
 go_wp2_with fail
 refine HDR.mono ?_
 rintro e w1 ⟨q,a2,c2,L,d,i,g,s,rfl,J,hw,b1,hdq⟩
 have HN:=hid (show q.length≤1048576 by have:=hw.1;omega)
 have HK:=hid (show∀t∈q,t.kids.length≤1048576 from fun t ht=>by have:=hw.2.1 t ht;omega)
 have HS:=hid (show∀t∈q,t.s.size≤1048576∧t.t.size≤1048576 from fun t ht=>by have:=hw.2.2 t ht;exact⟨Nat.le_trans this.1 (by decide),Nat.le_trans this.2 (by decide)⟩)
 have HL:=hid J
 have HDQ:=hid hdq
 obtain⟨Wa,hWa⟩:∃Wa,Wa=w1.alloc (.cells #[.int .i64 L,.bool d,.bool i,.bool g,.bool s] 26):=⟨_,rfl⟩
 have Pa:=hid (show B5 w1.heap.size L d i g s Wa by rw[hWa];exact B5.new _ _ _ _ _ _)
 have Ba:=hid (show Below w.heap.size w Wa by rw[hWa];exact b1.alloc b1.size _)
 have Ca:=hid (show Below w1.heap.size w1 Wa by rw[hWa];exact(Below.refl _ _).alloc (Nat.le_refl _) _)
 clear b1 J hw hdq
 go_wp2_with fail
 rw[←hWa]
 clear hWa
 refine(HFR.out _ Ba.out).mono ?_
 rintro e w2 ⟨af,nf,cf,zf,rfl,hnf,hcf,b2⟩
 have P2:=hid (Pa.keep b2 Pa.lt)
 have B2:=hid (Ba.trans (b2.mono Ba.size))
 have C2:=hid (Ca.trans (b2.mono Ca.size))
 have j:=hid (draw.drawExprTokens_anyD (cap:=cf) hcf (by omega))
 clear b2 hcf hnf
 go_wp2_with fail
 refine j.mono ?_
 rintro e w3 ⟨x,a5,c5,L',d',i',g',s',rfl,I,F,b3,-⟩
 have XN:=hid (show x.length≤1048576 by have:=F.1;omega)
 have XK:=hid (show∀t∈x,t.kids.length≤1048576 from fun t ht=>by have:=F.2.1 t ht;omega)
 have XS:=hid (show∀t∈x,t.s.size≤1048576∧t.t.size≤1048576 from fun t ht=>by have:=F.2.2 t ht;exact⟨Nat.le_trans this.1 (by decide),Nat.le_trans this.2 (by decide)⟩)
 have XL:=hid I
 obtain⟨Wb,hWb⟩:∃Wb,Wb=w3.alloc (.cells #[.int .i64 L',.bool d',.bool i',.bool g',.bool s'] 26):=⟨_,rfl⟩
 have Cb:=hid (show Below w3.heap.size w3 Wb by rw[hWb];exact(Below.refl _ _).alloc (Nat.le_refl _) _)
 have B3:=hid (B2.trans (b3.mono B2.size))
 have C3:=hid (C2.trans (b3.mono C2.size))
 have P3:=hid (P2.keep b3 P2.lt)
 have Bb:=hid (B3.trans (Cb.mono B3.size))
 have CC:=hid (C3.trans (Cb.mono C3.size))
 have Pb:=hid (P3.keep Cb.out P3.lt)
 have Qb:=hid Pb.c
 rw[hWb]at Qb
 obtain⟨y0,y1,y2,y3,y4⟩:=Qb.out
 clear b3 I F j
 go_wp2_with fail
 rw[←hWb]
 clear hWb y0 y1 y2 y3 y4 Qb
 have HPD:=hid (show w1.heap.size<Wb.heap.size from Pb.lt)
 refine(tw.impl_ExprTokens q a2 c2 ⟨L,d,i,g,s⟩ Wb HN.out HK.out HS.out (HL.on CC.out (Nat.le_refl _)) (HH.below Bb.out)).mono ?_
 rintro e w4 ⟨v,rfl,b4,o4⟩
 have htl:=tw.etoks_len q ⟨L,d,i,g,s⟩
 obtain⟨T,hT⟩:∃T,T=tw.etoks q ⟨L,d,i,g,s⟩:=⟨_,rfl⟩
 rw[←hT]at o4 htl
 obtain⟨a3,c3,rfl⟩:=o4.form
 obtain⟨n,hln⟩:∃n,n=T.length:=⟨_,rfl⟩
 rw[←hln]
 have HLN:=hid hln
 have P4:=hid (Pb.keep b4 HPD.out)
 have B4:=hid (Bb.trans (b4.mono Bb.size))
 have C4:=hid (CC.trans (b4.mono CC.size))
 have D4:=hid (Cb.trans (b4.mono Cb.size))
 have K4:=hid (o4.lies rfl)
 clear b4 o4 hln
 go_wp2_with fail
 refine(rt.spec_expr q a2 c2 _ HN.out HK.out HS.out (HL.on C4.out (Nat.le_refl _))).mono ?_
 have HTE:=hid hT
 have HTL:=hid htl
 clear hT
 cases hx:rt.exprOk q
 ·have hTl:n=0:=by rw[HLN.out,HTE.out];unfold tw.etoks;rw[if_neg (by simp[hx])];rfl
  rintro e w5 ⟨rfl,b5⟩
  have y:=hid (B4.trans (b5.mono B4.size))
  clear b5 htl hx
  go_wp2
  go_ret
  exact⟨rfl,y.out⟩
 rintro e w5 ⟨rfl,b5⟩
 have P5:=hid (P4.keep b5 P4.lt)
 have y:=hid (B4.trans (b5.mono B4.size))
 have C5:=hid (C4.trans (b5.mono C4.size))
 have D5:=hid (D4.trans (b5.mono D4.size))
 have K5:=hid ((K4.keep b5 (Nat.le_refl _)).up b5.size)
 have HX:=hid hx
 clear b5 hx
 have p0:=P5.c
 go_wp2_with fail
 clear p0
 refine(ps.spec_ok L d i g s _).mono ?_
 cases hp:posOk L d
 ·have hTl:n=0:=by rw[HLN.out,HTE.out];unfold tw.etoks;rw[if_neg (by simp[hp])];rfl
  rintro e w6 ⟨rfl,b6⟩
  have B6:=hid (y.trans (b6.mono y.size))
  clear b6 htl hp
  go_wp2
  go_ret
  exact⟨rfl,B6.out⟩
 rintro e w6 ⟨rfl,b6⟩
 have P6:=hid (P5.keep b6 P5.lt)
 have B6:=hid (y.trans (b6.mono y.size))
 have C6:=hid (C5.trans (b6.mono C5.size))
 have D6:=hid (D5.trans (b6.mono D5.size))
 have K6:=hid ((K5.keep b6 (Nat.le_refl _)).up b6.size)
 have HP:=hid (show posOk (⟨L,d,i,g,s⟩:Ps).l (⟨L,d,i,g,s⟩:Ps).d=true from hp)
 have HSS:=hid (show∀t∈q,t.s.size≤1048576 from fun t ht=>(HS.out t ht).1)
 clear b6 hp htl
 by_cases hlong:300<n
 ·have h3:(300:Int)<(n:Int):=by omega
  go_wp2
  go_ret
  exact⟨rfl,B6.out⟩
 have h3:¬(300:Int)<(n:Int):=by omega
 have HTM:=hid (show∀t∈T,t.s.size≤1048576 by rw[HTE.out];exact(rb.etoks_ok HX.out HSS.out HP.out).2)
 have HTB:=hid (show T.length≤1048576 by have:=HTL.out;omega)
 have HY:=hid (show dm.derB T q ⟨L,d,i,g,s⟩=true by
  rw[HTE.out]
  exact dm.der_yes HX.out HSS.out HP.out (draw.dq.dq_depth (et.tree_parts (tw.expr_parts HX.out).1).1 HDQ.out) (by rw[←HTE.out,←HLN.out];omega))
 have HU:=hid (show dm.derB T x ⟨L,d,i,g,s⟩=true→q=x by
  intro h
  rw[HTE.out]at h
  exact dm.der_uniq HX.out HSS.out HP.out h)
 have G:=hid (dm.impl_derives T q a3 a2 c3 c2 ⟨L,d,i,g,s⟩ w6 HTB.out K6.out HTM.out HN.out (HL.on C6.out (Nat.le_refl _)) HK.out HS.out (HH.below B6.out))
 rw[HY.out,←HLN.out]at G
 have p0:=P6.c
 go_wp2_with fail
 clear p0
 refine G.mono ?_
 clear G
 rintro e w7 ⟨rfl,b7⟩
 have P7:=hid (P6.keep b7 P6.lt)
 have B7:=hid (B6.trans (b7.mono B6.size))
 have C7:=hid (C6.trans (b7.mono C6.size))
 have D7:=hid (D6.trans (b7.mono D6.size))
 have K7:=hid ((K6.keep b7 (Nat.le_refl _)).up b7.size)
 clear b7
 have HSM:=hid (nd.spec_same q x a2 a5 c2 c5 w7 HN.out XN.out HK.out XK.out (HL.on C7.out (Nat.le_refl _)) (XL.on D7.out (Nat.le_refl _)))
 go_wp2_with fail
 by_cases hq:q=x
 ·rw[decide_eq_true hq]at HSM
  refine HSM.mono ?_
  clear HSM
  rintro e w8 ⟨rfl,b8⟩
  have B8:=hid (B7.trans (b8.mono B7.size))
  clear b8
  go_wp2
  go_ret
  exact⟨rfl,B8.out⟩
 ·rw[decide_eq_false hq]at HSM
  refine HSM.mono ?_
  clear HSM
  rintro e w8 ⟨rfl,b8⟩
  have P8:=hid (P7.keep b8 P7.lt)
  have B8:=hid (B7.trans (b8.mono B7.size))
  have D8:=hid (D7.trans (b8.mono D7.size))
  have K8:=hid ((K7.keep b8 (Nat.le_refl _)).up b8.size)
  have j:=hid (dm.impl_derives T x a3 a5 c3 c5 ⟨L,d,i,g,s⟩ w8 HTB.out K8.out HTM.out XN.out (XL.on D8.out (Nat.le_refl _)) XK.out XS.out (HH.below B8.out))
  have hno:dm.derB T x ⟨L,d,i,g,s⟩=false:=by
   cases h:dm.derB T x ⟨L,d,i,g,s⟩with
   |false=>rfl
   |true=>exact absurd (HU.out h) hq
  rw[hno,←HLN.out]at j
  clear b8 hno
  have p0:=P8.c
  go_wp2_with fail
  clear p0
  refine j.mono ?_
  clear j
  rintro e w9 ⟨rfl,b9⟩
  have B9:=hid (B8.trans (b9.mono B8.size))
  clear b9
  go_wp2
  go_ret
  exact⟨rfl,B9.out⟩
theorem walk(a:Option Addr)(len cap:Nat)(zs:List Int)(w:World)(hz:draw.IsRow .u8 w a len cap zs)(hh:Held w):
  Calls Tryz.prog 3 #[.slice a len cap] w fun e w'=>e= .returned (.bool true)∧Below w.heap.size w w':=by
 have hlm:len≤maxLen:=by
  rcases hz with ⟨_,rfl,_,_⟩|⟨x,_,hl,hm,_⟩
  ·exact Nat.zero_le _
  ·exact Nat.le_trans hl hm
 unfold maxLen at hlm
 by_cases hl:len≤1048576
 ·exact core (draw.code_of hz) hl hh
 ·have hbig:decide (1048576<len)=true:=by simp;omega
  clear hz
  go_enter Tryz.func3,Tryz.ntmps3
  go_wp2_with fail
  refine(draw.big_any a len cap _ (by omega)).mono ?_
  rw[hbig]
  rintro e w1 ⟨rfl,rfl⟩
  go_wp2
  go_ret
  exact⟨rfl,Below.refl _ _⟩
end Go.Proofs.YtnoagleifffkcaaGreatDoor.lawOne
