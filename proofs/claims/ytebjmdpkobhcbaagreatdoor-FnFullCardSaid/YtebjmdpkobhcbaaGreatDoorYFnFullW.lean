/- A part of the proof; no condition of its own. -/
import Derived.Test.YtebjmdpkobhcbaaGreatDoorCards
import Derived.Test.YtebjmdpkobhcbaaGreatDoorTie
import Derived.Test.YtebjmdpkobhcbaaGreatDoorYGSp
import Derived.Test.YtebjmdpkobhcbaaGreatDoorYGDa
import Derived.Test.YtebjmdpkobhcbaaGreatDoorYGDf
import Derived.Test.YtebjmdpkobhcbaaGreatDoorYFullMath
import Derived.Test.YtebjmdpkobhcbaaGreatDoorYGPi
import Derived.Test.YtebjmdpkobhcbaaGreatDoorYNest
import Derived.Test.YtebjmdpkobhcbaaGreatDoorYGSm
import Derived.OpenVars
import Derived.Deep.DeepHandedRow
import Derived.Deep.RegionHeld3
import Derived.Laws.StructEq
import Derived.Lib.SmallJoins
import Derived.Stop.LaidErr
namespace Go.Proofs.YtebjmdpkobhcbaaGreatDoor.lawFull
open Lib (hid)
open Go.ChangeShapes Go.WideShapes Go.ChangeAt Go.RowKit
open spell (Held held)
open nd (Nd)
open tk (Tk)
open ps (Ps posOk top)
open draw (IsRow)
set_option linter.unusedVariables false
set_option linter.unusedSimpArgs false
set_option maxRecDepth 20000
def FOut(w:World)(e:Ending)(w':World):Prop:=
 ∃(q:List Nd) (a2:Option Addr) (c2:Nat),e= .returned (.slice a2 q.length c2)∧nd.Lies w'.heap.size w' a2 q∧draw.Wild q∧Below w.heap.size w w'
set_option maxHeartbeats 1600000 in
theorem drawFull_any{a:Option Addr}{len cap:Nat}{zs:List Int}{w:World}(hc:draw.Code w.heap.size w a len zs)(hl:len≤1048576):
  Calls Tryz.prog 15 #[.slice a len cap] w (FOut w):=by
 have HC:=hid hc
 clear hc
 go_enter Tryz.func15,Tryz.ntmps15
 go_wp2_with fail
 refine(draw.new_any (cap:=cap) HC.out (Nat.le_refl _) hl).mono ?_
 rintro e w1 ⟨rfl,I1,b1⟩
 have J1:=hid I1
 have B1:=hid b1
 clear I1 b1
 go_wp2_with fail
 refine(draw.l10Draw_any J1.out).mono ?_
 rintro e w3 ⟨q,a2,c2,s3,rfl,l3,h,I3,g3⟩
 have HW:=hid h
 have L3:=hid l3.lies
 have B3:=hid (draw.below_of g3 (Nat.le_refl _) B1.size)
 have B4:=hid (B1.trans B3.out)
 clear I3 g3 l3 h
 go_wp2
 go_ret
 exact⟨q,a2,c2,rfl,L3.out,HW.out,B4.out⟩
set_option maxHeartbeats 6400000 in
theorem core{a:Option Addr}{len cap:Nat}{zs:List Int}{w:World}(hc:draw.Code w.heap.size w a len zs)(hl:len≤1048576)(hh:Held w):
  Calls Tryz.prog 6 #[.slice a len cap] w fun e w'=>e= .returned (.bool true)∧Below w.heap.size w w':=by
 have hbig:decide (1048576<len)=false:=by simp;omega
 have HDR:=hid (drawFull_any (cap:=cap) hc hl)
 have HH:=hid hh
 clear hc hh
 go_enter Tryz.func6,Tryz.ntmps6
 go_wp2_with fail
 refine(draw.big_any a len cap _ (by omega)).mono ?_
 rw[hbig]
 rintro e w0 ⟨rfl,rfl⟩
 go_wp2_with fail
 refine HDR.mono ?_
 rintro e w1 ⟨q,a2,c2,rfl,h,hw,b1⟩
 have HN:=hid (show q.length≤1048576 by have:=hw.1;omega)
 have HK:=hid (show∀t∈q,t.kids.length≤1048576 from fun t ht=>by have:=hw.2.1 t ht;omega)
 have HS:=hid (show∀t∈q,t.s.size≤1048576∧t.t.size≤1048576 from fun t ht=>by have:=hw.2.2 t ht;exact⟨Nat.le_trans this.1 (by decide),Nat.le_trans this.2 (by decide)⟩)
 have HL:=hid h
 have B1:=hid b1
 clear b1 h hw
 go_wp2_with fail
 refine(tw.impl_FullTokens q a2 c2 _ HN.out HK.out HS.out HL.out (HH.below B1.out)).mono ?_
 rintro e w2 ⟨v,rfl,b2,o2⟩
 obtain⟨T,hT⟩:∃T,T=tw.ftoks q:=⟨_,rfl⟩
 rw[←hT]at o2
 obtain⟨a3,c3,rfl⟩:=o2.form
 obtain⟨n,hln⟩:∃n,n=T.length:=⟨_,rfl⟩
 rw[←hln]
 have HLN:=hid hln
 have HTE:=hid hT
 have B2:=hid (B1.trans (b2.mono B1.size))
 have C2:=hid b2
 have K2:=hid (o2.lies rfl)
 clear b2 o2 hln hT
 go_wp2_with fail
 refine(rt.spec_expr q a2 c2 _ HN.out HK.out HS.out (HL.on C2.out (Nat.le_refl _))).mono ?_
 cases hx:rt.exprOk q
 ·have hTl:n=0:=by rw[HLN.out,HTE.out];unfold tw.ftoks;rw[if_neg (by simp[hx])];rfl
  rintro e w4 ⟨rfl,b4⟩
  have B4:=hid (B2.trans (b4.mono B2.size))
  subst hTl
  clear b4 hx
  go_wp2
  go_ret
  exact⟨rfl,B4.out⟩
 obtain⟨f1,f2,f3,f4⟩:=rb.full_read hx (fun t ht=>(HS.out t ht).1)
 rw[←HTE.out]at f1 f2 f3 f4
 have I:=hid f1
 have HTB:=hid (show T.length≤1048576 by omega)
 have G:=hid f4
 have HEL:=hid (tw.etoks_len q top)
 rintro e w3 ⟨rfl,b3⟩
 have B3:=hid (B2.trans (b3.mono B2.size))
 have C3:=hid (C2.trans (b3.mono C2.size))
 have K3:=hid ((K2.keep b3 (Nat.le_refl _)).up b3.size)
 clear b3 f1 f2 f4 hx
 go_wp2_with fail
 refine(ps.impl_top _).mono ?_
 rintro e w4 ⟨rfl,b4⟩
 have B4:=hid (B3.trans (b4.mono B3.size))
 have C4:=hid (C3.trans (b4.mono C3.size))
 have K4:=hid ((K3.keep b4 (Nat.le_refl _)).up b4.size)
 clear b4
 have HPE:=hid (pr.impl_parse T a3 c3 top _ K4.out HTB.out I.out (HH.below B4.out))
 obtain⟨O,hO⟩:∃O,pe.parse T top=O:=⟨_,rfl⟩
 rw[hO]at f3 HPE
 rw[←HLN.out]at HPE f3
 clear hO
 go_wp2_with fail
 refine HPE.mono ?_
 clear HPE
 rintro e w5 ⟨v,z,r,rfl,hz,hpt,b5⟩
 obtain⟨a5,c5,rfl⟩:=hpt.form
 have B5:=hid (B4.trans (b5.mono B4.size))
 have C5:=hid (C4.trans (b5.mono C4.size))
 have K5:=hid ((K4.keep b5 (Nat.le_refl _)).up b5.size)
 have L5:=hid hpt.lies
 rcases f3 with ⟨hn,hk⟩|rfl
 ·obtain⟨On,Ok,Oa⟩:∃x:Nat×Int×Int,x=(O.n,O.k,O.a):=⟨_,rfl⟩
  clear hz hpt b5 L5
  obtain⟨W,hW⟩:∃W,W=w5.alloc (.cells #[.int .i64 O.k,.int .i64 O.a] 28):=⟨_,rfl⟩
  have CW:=hid (show Below w5.heap.size w5 W by rw[hW];exact(Below.refl _ _).alloc (Nat.le_refl _) _)
  have RW:=hid (show pr.Bk w5.heap.size #[.int .i64 O.k,.int .i64 O.a] 28 W by rw[hW];exact pr.Bk.new _ _ _)
  have r0:=RW.c2
  have BW:=hid (B5.trans (CW.mono B5.size))
  have KW:=hid ((K5.keep CW.out (Nat.le_refl _)).up CW.size)
  rw[hW,hk]at r0
  have F:=hid (pb.spec_nestOf T a3 c3 W HTB.out KW.out)
  rw[←HLN.out]at F
  go_wp2_with fail
  rw[←hk,←hW]
  clear r0 hW
  refine F.mono ?_
  rintro e w6 ⟨rfl,b6⟩
  have B6:=hid (BW.trans (b6.mono BW.size))
  clear b6
  go_wp2
  go_ret
  exact⟨by simp,B6.out⟩
 ·simp only at hz
  obtain⟨W,hW⟩:∃W,W=w5.alloc (.cells #[.int .i64 0,.int .i64 0] 28):=⟨_,rfl⟩
  have hzl:z.length=q.length:=by rw[←hz,List.length_map]
  rw[hz]at L5
  rw[hzl]
  clear hz hpt b5 hzl
  have CW:=hid (show Below w5.heap.size w5 W by rw[hW];exact(Below.refl _ _).alloc (Nat.le_refl _) _)
  have RW:=hid (show pr.Bk w5.heap.size #[.int .i64 0,.int .i64 0] 28 W by rw[hW];exact pr.Bk.new _ _ _)
  have r0:=RW.c2
  have BW:=hid (B5.trans (CW.mono B5.size))
  have C6:=hid (C5.trans (CW.mono C5.size))
  have KW:=hid ((K5.keep CW.out (Nat.le_refl _)).up CW.size)
  have LW:=hid (L5.on CW.out (Nat.le_refl _))
  rw[hW]at r0
  have HSM:=hid (nd.spec_same q q a2 a5 c2 c5 W HN.out HN.out HK.out HK.out (HL.on C6.out (Nat.le_refl _)) LW.out)
  go_wp2_with fail
  rw[←hW]
  clear r0 hW
  refine HSM.mono ?_
  rintro e w6 ⟨he,b6⟩
  simp only[decide_true]at he
  subst he
  have B6:=hid (BW.trans (b6.mono BW.size))
  have C7:=hid (C6.trans (b6.mono C6.size))
  have K6:=hid ((KW.keep b6 (Nat.le_refl _)).up b6.size)
  have y:=hid (pb.impl_parens T a3 c3 w6 HTB.out K6.out)
  rw[←HLN.out]at y
  clear b6
  go_wp2_with fail
  refine y.mono ?_
  rintro e w7 ⟨rfl,b7⟩
  have B7:=hid (B6.trans (b7.mono B6.size))
  have C8:=hid (C7.trans (b7.mono C7.size))
  clear b7
  go_wp2_with fail
  refine(ps.impl_top _).mono ?_
  rintro e w8 ⟨rfl,b8⟩
  have B8:=hid (B7.trans (b8.mono B7.size))
  have C9:=hid (C8.trans (b8.mono C8.size))
  clear b8
  go_wp2_with fail
  refine(tw.impl_ExprTokens q a2 c2 top w8 HN.out HK.out HS.out (HL.on C9.out (Nat.le_refl _)) (HH.below B8.out)).mono ?_
  rintro e w9 ⟨v9,rfl,b9,o9⟩
  obtain⟨a9,c9,rfl⟩:=o9.form
  have B9:=hid (B8.trans (b9.mono B8.size))
  have K9:=hid (o9.lies rfl)
  have j:=hid (pb.impl_parens (tw.etoks q top) a9 c9 w9 (Nat.le_trans HEL.out (by decide)) K9.out)
  clear b9 o9
  have hle:=G.out
  rw[←HLN.out]at hle
  obtain⟨X,hX⟩:∃X,pb.pc (tw.etoks q top) (tw.etoks q top).length=X:=⟨_,rfl⟩
  rw[hX]at j hle
  obtain⟨Y,hY⟩:∃Y,pb.pc T n=Y:=⟨_,rfl⟩
  rw[hY]at hle⊢
  have J:(X:Int)≤(Y:Int):=by omega
  clear hX hY
  go_wp2_with fail
  refine j.mono ?_
  rintro e wa ⟨rfl,ba⟩
  have BA:=hid (B9.trans (ba.mono B9.size))
  clear ba
  go_wp2
  go_ret
  exact⟨by simp,BA.out⟩
theorem walk(a:Option Addr)(len cap:Nat)(zs:List Int)(w:World)(hz:draw.IsRow .u8 w a len cap zs)(hh:Held w):
  Calls Tryz.prog 6 #[.slice a len cap] w fun e w'=>e= .returned (.bool true)∧Below w.heap.size w w':=by
 have hlm:len≤maxLen:=by
  rcases hz with ⟨_,rfl,_,_⟩|⟨x,_,hl,hm,_⟩
  ·exact Nat.zero_le _
  ·exact Nat.le_trans hl hm
 unfold maxLen at hlm
 by_cases hl:len≤1048576
 ·exact core (draw.code_of hz) hl hh
 ·have hbig:decide (1048576<len)=true:=by simp;omega
  clear hz
  go_enter Tryz.func6,Tryz.ntmps6
  go_wp2_with fail
  refine(draw.big_any a len cap _ (by omega)).mono ?_
  rw[hbig]
  rintro e w1 ⟨rfl,rfl⟩
  go_wp2
  go_ret
  exact⟨rfl,Below.refl _ _⟩
end Go.Proofs.YtebjmdpkobhcbaaGreatDoor.lawFull
