/- A part of the proof; no condition of its own. -/
import Derived.Test.YtebjmdpkobhcbaaGreatDoorCards
import Derived.Test.YtebjmdpkobhcbaaGreatDoorTie
import Derived.Test.YtebjmdpkobhcbaaGreatDoorDGSp
import Derived.Test.YtebjmdpkobhcbaaGreatDoorDGDa
import Derived.Test.YtebjmdpkobhcbaaGreatDoorDGPj
import Derived.Test.YtebjmdpkobhcbaaGreatDoorDArgsMath
import Derived.OpenVars
import Derived.Deep.DeepHandedRow
import Derived.Deep.RegionHeld3
import Derived.Laws.StructEq
import Derived.Lib.SmallJoins
import Derived.Stop.LaidErr
namespace Go.Proofs.YtebjmdpkobhcbaaGreatDoor.lawArgs
open Lib (hid)
open Go.ChangeShapes Go.WideShapes Go.ChangeAt Go.RowKit
open spell (Held held)
open nd (Nd PT)
open draw (IsRow)
open pe (readF)
open pr (ROut impl_read)
set_option linter.unusedVariables false
set_option linter.unusedSimpArgs false
set_option maxRecDepth 20000
def RelA(H N:Nat)(s c i:Value)(W wr:World):Prop:=∃I:Nat,I≤N∧i= .int .i64 (I:Int)∧s= .string (aw H I)∧c= .int .i64 (cut H I:Int)∧wr=W
theorem aw_size(H:Nat)(hH:H<3)(I:Nat)(hI:I<10):(aw H I).size≤1000:=by
 have h:=right_all hH hI
 unfold right at h
 rw[Bool.and_eq_true,Bool.and_eq_true,decide_eq_true_eq,decide_eq_true_eq]at h
 exact h.2.1
set_option maxHeartbeats 6400000 in
theorem core{a:Option Addr}{len cap:Nat}{zs:List Int}{w:World}(hc:draw.Code w.heap.size w a len zs)(hl:len≤1048576)(hh:Held w):
  Calls Tryz.prog 3 #[.slice a len cap] w fun e w'=>e= .returned (.bool true)∧Below w.heap.size w w':=by
 have hbig:decide (1048576<len)=false:=by simp;omega
 have HAT:=hid (draw.at_code (cap:=cap) 0 (by omega) w hc hl)
 have C:=hid (fun w2 (hb:Below w.heap.size w w2)=>draw.at_code (a:=a) (len:=len) (zs:=zs) (cap:=cap) 1 (by omega) w2 ((hc.keep hb).up hb.size) hl)
 have HH:=hid hh
 clear hc hh
 go_enter Tryz.func3,Tryz.ntmps3
 go_wp2_with fail
 refine(draw.big_any a len cap _ (by omega)).mono ?_
 rw[hbig]
 rintro e w1 ⟨rfl,rfl⟩
 go_wp2_with fail
 refine HAT.mono ?_
 rintro e w2 ⟨⟨X,hX,rfl⟩,rfl⟩
 obtain⟨N,hN⟩:∃N:Nat,N=X%10:=⟨_,rfl⟩
 have e1:(X:Int).tmod 10=(N:Int):=by rw[Int.tmod_eq_emod_of_nonneg (by omega)];omega
 have e2:(X:Int)%10=(N:Int):=by omega
 have D:N<10:=by omega
 clear hX hN
 go_wp2_with fail
 refine(C.out _ ((Below.refl _ _).alloc (Nat.le_refl _) _)).mono ?_
 rintro e w3 ⟨⟨Y,hY,rfl⟩,rfl⟩
 obtain⟨H,hH⟩:∃H:Nat,H=Y%3:=⟨_,rfl⟩
 have f1:(Y:Int).tmod 3=(H:Int):=by rw[Int.tmod_eq_emod_of_nonneg (by omega)];omega
 have f2:(Y:Int)%3=(H:Int):=by omega
 have u:H<3:=by omega
 have h0:(0:Int)≤(H:Int):=by omega
 have h3:(H:Int)<3:=by omega
 clear hY hH
 obtain⟨W1,j⟩:∃W1,W1=w.alloc (.cells #[.string ⟨#[102,40]⟩,.string ⟨#[115,117,98,115,116,114,40]⟩,.string ⟨#[97,91]⟩] 9):=⟨_,rfl⟩
 have B1:=hid (show Below w.heap.size w W1 by rw[j];exact(Below.refl _ _).alloc (Nat.le_refl _) _)
 have hcell:W1.cell? ⟨w.heap.size,H,none⟩=some (.string (hd H)):=by
  have hr:=heap_alloc_new w (.cells #[.string ⟨#[102,40]⟩,.string ⟨#[115,117,98,115,116,114,40]⟩,.string ⟨#[97,91]⟩] 9)
  rw[j,cell_of_row _ _ _ _ _ _ hr]
  rcases(show H=0∨H=1∨H=2 by omega)with rfl|rfl|rfl<;>rfl
 rw[←j]
 clear j
 go_wp2
 go_loopw [6,7,8] (fun s c i wr=>RelA H N s c i W1 wr) (fun _ _ i _=>N-(intOf i).toNat)
 case atStart=>exact⟨0,Nat.zero_le _,rfl,rfl,rfl,rfl⟩
 case round=>
  obtain⟨I,hI,rfl,rfl,rfl,rfl⟩:=hrel
  by_cases hlt:I<N
  ·have hsz:=aw_size H u I (by omega)
   have B:(I:Int)<(N:Int):=by omega
   have hcs:=cut_step H I
   have haw:aw H (I+1)=(if I=0 then aw H I else aw H I++⟨#[44]⟩)++⟨#[120]⟩:=rfl
   by_cases h6:I=6
   ·subst h6
    rw[if_pos rfl]at hcs
    rw[if_neg (by decide)]at haw
    have x:=aw_size H u 7 (by omega)
    rw[haw]at x
    simp only[ByteArray.size_append]at x
    have G:(6:Int)<(N:Int):=by omega
    have HCS:=hid hcs
    clear hcs x
    go_wp2
    exact⟨⟨7,by omega,rfl,by rw[haw],by rw[←HCS.out],rfl⟩,by simp[intOf];omega⟩
   ·rw[if_neg h6]at hcs
    have q6:((I:Int)==6)=false:=by rw[beq_eq_false_iff_ne];omega
    by_cases h00:I=0
    ·subst h00
     rw[if_pos rfl]at haw
     go_wp2
     exact⟨⟨1,by omega,rfl,by rw[haw],by rw[hcs],rfl⟩,by simp[intOf];omega⟩
    ·rw[if_neg h00]at haw
     have q0:(0:Int)<(I:Int):=by omega
     go_wp2
     exact⟨⟨I+1,by omega,by go_num,by rw[haw],by rw[hcs],rfl⟩,by simp[intOf];omega⟩
  ·obtain rfl:I=N:=by omega
   have B:¬(I:Int)<(I:Int):=by omega
   have hsz:=aw_size H u I (by omega)
   have hr:=right_all u D
   unfold right at hr
   rw[Bool.and_eq_true,Bool.and_eq_true,decide_eq_true_eq,decide_eq_true_eq]at hr
   obtain⟨hts,-,hr⟩:=hr
   have HRD:=hid (fun w2 F=>impl_read (txt H I) w2 (by omega) F)
   obtain⟨O,hO⟩:∃O,readF (txt H I)=O:=⟨_,rfl⟩
   rw[hO]at HRD hr
   have HX:=hid hr
   have HHW:=hid (HH.below B1.out)
   have HTX:aw H I++(if H=2 then⟨#[93]⟩else⟨#[41]⟩)=txt H I:=rfl
   obtain⟨S,hS⟩:∃S,txt H I=S:=⟨_,rfl⟩
   rw[hS]at HRD HTX
   clear hO hr hts hS hcell
   by_cases h2:H=2
   all_goals
    first|rw[if_pos h2]at HTX|rw[if_neg h2]at HTX
    have HT:=hid HTX
    clear HTX
    have q2:=h2
    first|(replace q2:((H:Int)==2)=true:=by rw[h2];rfl)|(replace q2:((H:Int)==2)=false:=by rw[beq_eq_false_iff_ne];omega)
    have H2:=hid h2
    clear h2
    go_wp2_with fail
    rw[HT.out]
    refine(HRD.out _ HHW.out).mono ?_
    rintro e w4 ⟨v1,z1,r1,rfl,m,y,b4⟩
    obtain⟨a1,c1,rfl⟩:=y.form
    obtain⟨ot,on,ok,oa⟩:=O
    have hr:=HX.out
    simp only at hr m⊢
    obtain⟨W2,f⟩:∃W2,W2=w4.alloc (.cells #[.int .i64 ok,.int .i64 oa] 28):=⟨_,rfl⟩
    have X1:=hid (show pr.Bk w4.heap.size #[.int .i64 ok,.int .i64 oa] 28 W2 by rw[f];exact pr.Bk.new _ _ _)
    have B2:=hid (show Below w.heap.size w W2 by rw[f];exact(B1.trans (b4.mono B1.size)).alloc (Nat.le_trans B1.size b4.size) _)
    have L1:nd.Lies W2.heap.size W2 a1 ot:=by rw[f,←m];exact y.lies.on ((Below.refl _ _).alloc (Nat.le_refl _) _) (Nat.le_refl _)
    have hzl:z1.length=ot.length:=by rw[←m,List.length_map]
    rw[hzl]
    have x0:=X1.c2
    clear b4 y m hzl
    by_cases h6:6<I
    ·rw[if_pos h6,Bool.and_eq_true,decide_eq_true_eq,beq_iff_eq]at hr
     obtain⟨⟨rfl,rfl⟩,hlen⟩:=hr
     rw[hlen]
     have q6:(6:Int)<(I:Int):=by omega
     rw[f]at x0
     clear L1
     go_wp2
     rw[←f]
     go_ret
     exact⟨rfl,B2.out⟩
    ·rw[if_neg h6]at hr
     have q6:¬(6:Int)<(I:Int):=by omega
     by_cases h02:I=0∧H=2
     ·first
       |exact absurd h02.2 H2.out
       |(rw[if_pos h02,decide_eq_true_eq]at hr
         obtain⟨rfl,rfl⟩:=hr
         have q0:((I:Int)==0)=true:=by rw[h02.1];rfl
         rw[f]at x0
         clear L1 h02
         go_wp2
         rw[←f]
         go_ret
         exact⟨rfl,B2.out⟩)
     ·rw[if_neg h02,Bool.and_eq_true,Bool.and_eq_true,decide_eq_true_eq,beq_iff_eq,beq_iff_eq]at hr
      obtain⟨rfl,hlen,hkid⟩:=hr
      rw[hlen]
      rcases L1 with L1|⟨b,o,rfl,hlt2,hat⟩
      ·rw[L1]at hlen;simp at hlen
      ·obtain⟨aK,cK,⟨d0,d1,d2,d3,d4⟩,-⟩:=hat I (by omega)
       have A:(ot[I]'(by omega)).kids.length=I:=by
        have h:=hkid
        rw[List.getD_eq_getElem?_getD,List.getElem?_eq_getElem (show I<ot.length by omega)]at h
        exact h
       rw[A]at d4
       clear A
       rw[f]at x0 d4
       have q7:(0:Int)≤(I:Int):=by omega
       have q8:(I:Int)<(I:Int)+1:=by omega
       clear hat d0 d1 d2 d3 hkid
       by_cases h0:I=0
       ·by_cases e2:H=2
        ·exact absurd ⟨h0,e2⟩ h02
        ·have q0:((I:Int)==0)=true:=by rw[h0];rfl
         first
          |(exact absurd H2.out e2)
          |skip
         all_goals
          clear h02 h0 e2
          go_wp2
          rw[←f]
          go_ret
          exact⟨rfl,B2.out⟩
       ·have q0:((I:Int)==0)=false:=by rw[beq_eq_false_iff_ne];omega
        clear h02 h0
        go_wp2
        rw[←f]
        go_ret
        exact⟨rfl,B2.out⟩
theorem walk(a:Option Addr)(len cap:Nat)(zs:List Int)(w:World)(hz:draw.IsRow .u8 w a len cap zs)(hh:Held w):
  Calls Tryz.prog 3 #[.slice a len cap] w fun e w'=>e= .returned (.bool true)∧Below w.heap.size w w':=by
 have hlm:len≤maxLen:=by
  rcases hz with ⟨_,rfl,_,_⟩|⟨x,_,hl,hm,_⟩
  ·exact Nat.zero_le _
  ·exact Nat.le_trans hl hm
 unfold maxLen at hlm
 by_cases hl:len≤1048576
 ·exact core (draw.code_of hz) hl hh
 ·have hbig:decide (1048576<len)=true:=by simp;omega
  clear hz
  go_enter Tryz.func3,Tryz.ntmps3
  go_wp2_with fail
  refine(draw.big_any a len cap _ (by omega)).mono ?_
  rw[hbig]
  rintro e w1 ⟨rfl,rfl⟩
  go_wp2
  go_ret
  exact⟨rfl,Below.refl _ _⟩
end Go.Proofs.YtebjmdpkobhcbaaGreatDoor.lawArgs
