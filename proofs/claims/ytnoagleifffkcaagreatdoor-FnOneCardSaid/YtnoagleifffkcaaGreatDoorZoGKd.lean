/-

-/
import Derived.Test.YtnoagleifffkcaaGreatDoorZoGBs
import Derived.Test.YtnoagleifffkcaaGreatDoorZoGLv
import Derived.Laws.StructEq
import Derived.Deep.RegionLaw
import Derived.Deep.RegionHeld3
namespace Go.Proofs.YtnoagleifffkcaaGreatDoor.ps
open Lib (hid)
open Go.ChangeShapes Go.WideShapes Go.ChangeAt Go.RowKit
open chars (inR)
open lv (levelOf opLevel box_below Bx)
set_option linter.unusedVariables false
set_option maxRecDepth 20000
structure Ps where
 l:Int
 d:Bool
 i:Bool
 g:Bool
 s:Bool
def posOk(L:Int)(d:Bool):Bool:=inR L 1 15&&(!d||L==14)
def forb(k op:Int)(i g s:Bool):Bool:=(i&&k==13)||(g&&(k==12&&op==62))||(s&&(k==11||k==9||k==4))
def fits(k op L:Int)(d i g s:Bool):Bool:=posOk L d&& !(levelOf k op==0)&& !forb k op i g s&&((d&&k==9)||decide (L≤levelOf k op))
structure Px(b:Nat)(W:World)(L:Int)(d i g s:Bool):Prop where
 c0:W.cell? ⟨b,0,none⟩=some (.int .i64 L)
 c1:W.cell? ⟨b,1,none⟩=some (.bool d)
 c2:W.cell? ⟨b,2,none⟩=some (.bool i)
 c3:W.cell? ⟨b,3,none⟩=some (.bool g)
 c4:W.cell? ⟨b,4,none⟩=some (.bool s)
 lt:b<W.heap.size
theorem Px.start(w:World)(L:Int)(d i g s:Bool)(ty:TypeId):Px w.heap.size (w.alloc (.cells #[.int .i64 L,.bool d,.bool i,.bool g,.bool s] ty)) L d i g s:=by
 have hh:=heap_alloc_new w (.cells #[.int .i64 L,.bool d,.bool i,.bool g,.bool s] ty)
 refine⟨?_, ?_, ?_, ?_, ?_,by simp⟩
 ·rw[cell_of_row _ _ 0 _ _ _ hh];rfl
 ·rw[cell_of_row _ _ 1 _ _ _ hh];rfl
 ·rw[cell_of_row _ _ 2 _ _ _ hh];rfl
 ·rw[cell_of_row _ _ 3 _ _ _ hh];rfl
 ·rw[cell_of_row _ _ 4 _ _ _ hh];rfl
theorem Px.keep{b:Nat}{W w1:World}{L:Int}{d i g s:Bool}(h:Px b W L d i g s)(hb:Below W.heap.size W w1):Px b w1 L d i g s:=
 ⟨(hb.cell (p:=⟨b,0,none⟩) h.lt).trans h.c0,(hb.cell (p:=⟨b,1,none⟩) h.lt).trans h.c1,(hb.cell (p:=⟨b,2,none⟩) h.lt).trans h.c2,(hb.cell (p:=⟨b,3,none⟩) h.lt).trans h.c3,(hb.cell (p:=⟨b,4,none⟩) h.lt).trans h.c4,Nat.lt_of_lt_of_le h.lt hb.size⟩
theorem Px.drew{b:Nat}{W:World}{L:Int}{d i g s:Bool}(h:Px b W L d i g s):Px b W.drew L d i g s:=⟨h.c0,h.c1,h.c2,h.c3,h.c4,h.lt⟩
theorem bx_drew{w W:World}{k op:Int}{x y:ByteArray}{v:Value}(h:Bx w W k op x y v):Bx w W.drew k op x y v:=⟨h.c0,h.c1,h.c2,h.c3,h.c4,h.b.drew,h.lt⟩
theorem impl_top(w:World):Calls Tryz.prog 55 #[] w fun e w'=>e= .returned (.agg #[.int .i64 1,.bool false,.bool false,.bool false,.bool false])∧Below w.heap.size w w':=by
 go_enter Tryz.func55,Tryz.ntmps55
 go_wp2
 have hb:=And.intro (Px.start w 1 false false false false 26) (box_below w (.cells #[.int .i64 1,.bool false,.bool false,.bool false,.bool false] 26))
 generalize hW:w.alloc (.cells #[.int .i64 1,.bool false,.bool false,.bool false,.bool false] 26)=W at hb⊢
 clear hW
 obtain⟨⟨r0,r1,r2,r3,r4,-⟩,hbel⟩:=hb
 exact bodyPost_ret (v:= .agg #[.int .i64 1,.bool false,.bool false,.bool false,.bool false]) (by simp[results,Tryz.results55,go_sem,r0,r1,r2,r3,r4]) rfl ⟨rfl,hbel⟩
set_option maxHeartbeats 800000 in
theorem impl_ok(L:Int)(d i g s:Bool)(w:World):Calls Tryz.prog 25 #[.agg #[.int .i64 L,.bool d,.bool i,.bool g,.bool s]] w fun e w'=>e= .returned (.bool (posOk L d))∧Below w.heap.size w w':=by
 cases d
 ·by_cases h1:1≤L
  ·have HE:=hid (show posOk L false=decide (L≤15) by simp[posOk,inR,h1])
   go_enter Tryz.func25,Tryz.ntmps25
   go_wp2
   go_ret
   exact⟨by rw[HE.out];rfl,box_below _ _⟩
  ·have HE:=hid (show posOk L false=false by simp[posOk,inR,h1])
   go_enter Tryz.func25,Tryz.ntmps25
   go_wp2
   go_ret
   exact⟨by rw[HE.out];rfl,box_below _ _⟩
 ·have HE:=hid (show posOk L true=(L==14) by
   unfold posOk inR
   by_cases h:L=14
   ·subst h;rfl
   ·simp[h])
  go_enter Tryz.func25,Tryz.ntmps25
  go_wp2
  go_ret
  exact⟨by rw[HE.out];rfl,box_below _ _⟩
set_option maxHeartbeats 800000 in
theorem spec_ok(L:Int)(d i g s:Bool)(w:World):Calls Tryz.prog 10 #[.agg #[.int .i64 L,.bool d,.bool i,.bool g,.bool s]] w fun e w'=>e= .returned (.bool (posOk L d))∧Below w.heap.size w w':=by
 obtain⟨I,hI⟩:∃I,inR L 1 15=I:=⟨_,rfl⟩
 have HI:=hid hI
 clear hI
 cases I
 ·have HE:=hid (show posOk L d=false by unfold posOk;rw[HI.out];rfl)
  go_enter Tryz.func10,Tryz.ntmps10
  go_wp2_with (go_at_call 30;refine(chars.spec_in _ _ _ _).mono ?_;rw[HI.out];rintro e w' ⟨rfl,rfl⟩)
  go_ret
  exact⟨by rw[HE.out];rfl,box_below _ _⟩
 ·cases d
  ·have HE:=hid (show posOk L false=true by unfold posOk;rw[HI.out];rfl)
   go_enter Tryz.func10,Tryz.ntmps10
   go_wp2_with (go_at_call 30;refine(chars.spec_in _ _ _ _).mono ?_;rw[HI.out];rintro e w' ⟨rfl,rfl⟩)
   go_ret
   exact⟨by rw[HE.out];rfl,box_below _ _⟩
  ·have HE:=hid (show posOk L true=(L==14) by unfold posOk;rw[HI.out];rfl)
   go_enter Tryz.func10,Tryz.ntmps10
   go_wp2_with (go_at_call 30;refine(chars.spec_in _ _ _ _).mono ?_;rw[HI.out];rintro e w' ⟨rfl,rfl⟩)
   go_ret
   exact⟨by rw[HE.out];rfl,box_below _ _⟩
set_option maxHeartbeats 1600000 in
theorem impl_forb(k op L:Int)(x y:ByteArray)(a:Option Addr)(n cap:Nat)(d i g s:Bool)(w:World):Calls Tryz.prog 89 #[.agg #[.int .i64 L,.bool d,.bool i,.bool g,.bool s],.agg #[.int .i64 k,.int .i64 op,.string x,.string y,.slice a n cap]] w fun e w'=>e= .returned (.bool (forb k op i g s))∧Below w.heap.size w w':=by
 cases i<;>cases g<;>cases s
 all_goals
  go_enter Tryz.func89,Tryz.ntmps89
  go_wp2
  all_goals
   go_ret
   exact⟨congrArg (fun b=>Ending.returned (Value.bool b)) (by simp_all[forb]),(box_below w _).trans ((box_below _ _).mono (by simp))⟩
structure Nb(w W:World)(k op:Int)(x y:ByteArray)(v:Value)(L:Int)(d i g s:Bool):Prop where
 n:Bx w W k op x y v
 p:Px (w.heap.size+1) W L d i g s
theorem Nb.start(w:World)(k op:Int)(x y:ByteArray)(v:Value)(L:Int)(d i g s:Bool):Nb w ((w.alloc (.cells #[.int .i64 k,.int .i64 op,.string x,.string y,v] 57)).alloc (.cells #[.int .i64 L,.bool d,.bool i,.bool g,.bool s] 26)) k op x y v L d i g s:=by
 refine⟨(Bx.start w k op x y v 57).keep (box_below _ _), ?_⟩
 have h:=Px.start (w.alloc (.cells #[.int .i64 k,.int .i64 op,.string x,.string y,v] 57)) L d i g s 26
 have e:(w.alloc (.cells #[.int .i64 k,.int .i64 op,.string x,.string y,v] 57)).heap.size=w.heap.size+1:=by simp
 rw[e]at h
 exact h
theorem Nb.keep{w W w1:World}{k op:Int}{x y:ByteArray}{v:Value}{L:Int}{d i g s:Bool}(h:Nb w W k op x y v L d i g s)(hb:Below W.heap.size W w1):Nb w w1 k op x y v L d i g s:=
 ⟨h.n.keep hb,h.p.keep hb⟩
theorem Nb.drew{w W:World}{k op:Int}{x y:ByteArray}{v:Value}{L:Int}{d i g s:Bool}(h:Nb w W k op x y v L d i g s):Nb w W.drew k op x y v L d i g s:=⟨bx_drew h.n,h.p.drew⟩
theorem fits_no{k op L:Int}{d i g s:Bool}(h:posOk L d=false):fits k op L d i g s=false:=by unfold fits;rw[h];rfl
theorem fits_forb{k op L:Int}{d i g s:Bool}(h:forb k op i g s=true):fits k op L d i g s=false:=by unfold fits;rw[h];simp
theorem ok_pos{L:Int}{d:Bool}(h:posOk L d=true):1≤L∧L≤15:=by
 unfold posOk inR at h
 simp only[Bool.and_eq_true,decide_eq_true_eq]at h
 exact h.1
theorem fits_le{k op L:Int}{d i g s:Bool}(h:posOk L d=true)(hf:forb k op i g s=false):fits k op L d i g s=(decide (L≤levelOf k op)||(d&&k==9)):=by
 unfold fits
 rw[h,hf]
 have:=ok_pos h
 by_cases h0:levelOf k op=0
 ·rw[h0]
  by_cases h9:k=9
  ·subst h9;exact absurd h0 (by simp[levelOf])
  ·have:decide (L≤0)=false:=by simp;omega
   simp[h9,this]
 ·have:(levelOf k op==0)=false:=by simp[h0]
  rw[this]
  simp[Bool.or_comm]
set_option maxHeartbeats 3200000 in
theorem impl_fits(k op L:Int)(x y:ByteArray)(a:Option Addr)(n cap:Nat)(d i g s:Bool)(w:World):Calls Tryz.prog 52 #[.agg #[.int .i64 k,.int .i64 op,.string x,.string y,.slice a n cap],.agg #[.int .i64 L,.bool d,.bool i,.bool g,.bool s]] w fun e w'=>e= .returned (.bool (fits k op L d i g s))∧Below w.heap.size w w':=by
 have HB:=hid (Nb.start w k op x y (.slice a n cap) L d i g s)
 obtain⟨P,hP⟩:∃P,posOk L d=P:=⟨_,rfl⟩
 have HP:=hid hP
 clear hP
 obtain⟨G,hG⟩:∃G,forb k op i g s=G:=⟨_,rfl⟩
 have HF:=hid hG
 clear hG
 obtain⟨V,hV⟩:∃V,levelOf k op=V:=⟨_,rfl⟩
 have HV:=hid hV
 clear hV
 cases P
 ·have HE:=hid (fits_no (k:=k) (op:=op) (i:=i) (g:=g) (s:=s) HP.out)
  go_enter Tryz.func52,Tryz.ntmps52
  go_wp2_with (first|(go_at_call 25;refine(impl_ok L _ i g s _).mono ?_;rw[HP.out];rintro e w5 ⟨rfl,b5⟩;have X5:=hid (HB.keep b5);obtain⟨ab,O,K,ac,I,-,-⟩:=X5.n;obtain⟨ah,aj,Z,ae,j,-⟩:=X5.p;clear b5)|(go_at_call 89;refine(impl_forb k op L x y a n cap _ i g s _).mono ?_;rw[HF.out];rintro e w6 ⟨rfl,b6⟩;have X6:=hid (X5.keep b6);obtain⟨ai,Y,J,ag,ad,-,-⟩:=X6.n;obtain⟨af,F,X,S,aa,-⟩:=X6.p;clear b6))
  go_ret
  exact⟨by rw[HE.out];rfl,X5.n.b⟩
 ·cases G
  ·have HE:=hid (fits_le HP.out HF.out)
   rw[HV.out]at HE
   by_cases h1:L≤V
   ·have HD:=hid (show fits k op L d i g s=true by rw[HE.out];simp[h1])
    have hd:decide (L≤V)=true:=by simp[h1]
    go_enter Tryz.func52,Tryz.ntmps52
    go_wp2_with (first|(go_at_call 25;refine(impl_ok L _ i g s _).mono ?_;rw[HP.out];rintro e w5 ⟨rfl,b5⟩;have X5:=hid (HB.keep b5);obtain⟨ab,O,K,ac,I,-,-⟩:=X5.n;obtain⟨ah,aj,Z,ae,j,-⟩:=X5.p;clear b5)|(go_at_call 89;refine(impl_forb k op L x y a n cap _ i g s _).mono ?_;rw[HF.out];rintro e w6 ⟨rfl,b6⟩;have X6:=hid (X5.keep b6);obtain⟨ai,Y,J,ag,ad,-,-⟩:=X6.n;obtain⟨af,F,X,S,aa,-⟩:=X6.p;clear b6))
    have hun:(undef:Value)= .tuple #[]:=rfl
    first
     |(go_region_law (first|(go_simp;go_at_call 90;refine(lv.impl_level k op x y a n cap _).mono ?_;rw[HV.out];rintro e w7 ⟨rfl,b7⟩;have X7:=hid (X6.drew.keep b7);obtain⟨aq,an,am,aw,al,-,-⟩:=X7.n;obtain⟨ar,au,ap,av,ao,-⟩:=X7.p;clear b7)))
     |fail "REG"
    all_goals
     go_wp2
     go_ret
     exact⟨by rw[HD.out];rfl,X7.n.b⟩
   ·cases d
    ·have HD:=hid (show fits k op L false i g s=false by rw[HE.out];simp[h1])
     have hd:decide (L≤V)=false:=by simp[h1]
     go_enter Tryz.func52,Tryz.ntmps52
     go_wp2_with (first|(go_at_call 25;refine(impl_ok L _ i g s _).mono ?_;rw[HP.out];rintro e w5 ⟨rfl,b5⟩;have X5:=hid (HB.keep b5);obtain⟨ab,O,K,ac,I,-,-⟩:=X5.n;obtain⟨ah,aj,Z,ae,j,-⟩:=X5.p;clear b5)|(go_at_call 89;refine(impl_forb k op L x y a n cap _ i g s _).mono ?_;rw[HF.out];rintro e w6 ⟨rfl,b6⟩;have X6:=hid (X5.keep b6);obtain⟨ai,Y,J,ag,ad,-,-⟩:=X6.n;obtain⟨af,F,X,S,aa,-⟩:=X6.p;clear b6))
     first
      |(go_region_law (first|(go_simp;go_at_call 90;refine(lv.impl_level k op x y a n cap _).mono ?_;rw[HV.out];rintro e w7 ⟨rfl,b7⟩;have X7:=hid (X6.drew.keep b7);obtain⟨aq,an,am,aw,al,-,-⟩:=X7.n;obtain⟨ar,au,ap,av,ao,-⟩:=X7.p;clear b7)))
      |fail "REG"
     all_goals
      go_wp2
      go_ret
      exact⟨by rw[HD.out];rfl,X7.n.b⟩
    ·have HD:=hid (show fits k op L true i g s=(k==9) by rw[HE.out];simp[h1])
     have hd:decide (L≤V)=false:=by simp[h1]
     go_enter Tryz.func52,Tryz.ntmps52
     go_wp2_with (first|(go_at_call 25;refine(impl_ok L _ i g s _).mono ?_;rw[HP.out];rintro e w5 ⟨rfl,b5⟩;have X5:=hid (HB.keep b5);obtain⟨ab,O,K,ac,I,-,-⟩:=X5.n;obtain⟨ah,aj,Z,ae,j,-⟩:=X5.p;clear b5)|(go_at_call 89;refine(impl_forb k op L x y a n cap _ i g s _).mono ?_;rw[HF.out];rintro e w6 ⟨rfl,b6⟩;have X6:=hid (X5.keep b6);obtain⟨ai,Y,J,ag,ad,-,-⟩:=X6.n;obtain⟨af,F,X,S,aa,-⟩:=X6.p;clear b6))
     first
      |(go_region_law (first|(go_simp;go_at_call 90;refine(lv.impl_level k op x y a n cap _).mono ?_;rw[HV.out];rintro e w7 ⟨rfl,b7⟩;have X7:=hid (X6.drew.keep b7);obtain⟨aq,an,am,aw,al,-,-⟩:=X7.n;obtain⟨ar,au,ap,av,ao,-⟩:=X7.p;clear b7)))
      |fail "REG"
     all_goals
      go_wp2
      go_ret
      exact⟨by rw[HD.out];rfl,X7.n.b⟩
  ·have HE:=hid (fits_forb (L:=L) (d:=d) HF.out)
   go_enter Tryz.func52,Tryz.ntmps52
   go_wp2_with (first|(go_at_call 25;refine(impl_ok L _ i g s _).mono ?_;rw[HP.out];rintro e w5 ⟨rfl,b5⟩;have X5:=hid (HB.keep b5);obtain⟨ab,O,K,ac,I,-,-⟩:=X5.n;obtain⟨ah,aj,Z,ae,j,-⟩:=X5.p;clear b5)|(go_at_call 89;refine(impl_forb k op L x y a n cap _ i g s _).mono ?_;rw[HF.out];rintro e w6 ⟨rfl,b6⟩;have X6:=hid (X5.keep b6);obtain⟨ai,Y,J,ag,ad,-,-⟩:=X6.n;obtain⟨af,F,X,S,aa,-⟩:=X6.p;clear b6))
   go_ret
   exact⟨by rw[HE.out];rfl,X6.n.b⟩
end Go.Proofs.YtnoagleifffkcaaGreatDoor.ps

namespace Go.Proofs.YtnoagleifffkcaaGreatDoor.ps
open Lib (hid)
open Go.ChangeShapes Go.WideShapes Go.ChangeAt Go.RowKit
open chars (inR)
open lv (levelOf opLevel box_below Bx)
set_option linter.unusedVariables false
set_option maxRecDepth 20000
def B5(q:Nat)(L:Int)(d i g s:Bool)(w:World):Prop:=w.heap[q]? =some (.cells #[.int .i64 L,.bool d,.bool i,.bool g,.bool s] 26 (0,0))
section
variable {q:Nat} {L:Int} {d i g s:Bool} {w w':World}
theorem B5.lt(h:B5 q L d i g s w):q<w.heap.size:=by
 rcases Nat.lt_or_ge q w.heap.size with h'|h'
 ·exact h'
 ·unfold B5 at h;rw[Array.getElem?_eq_none h']at h;cases h
theorem B5.keep{B:Nat}(h:B5 q L d i g s w)(hb:Below B w w')(hq:q<B):B5 q L d i g s w':=(hb.block q hq).trans h
theorem B5.drew(h:B5 q L d i g s w):B5 q L d i g s w.drew:=h
theorem B5.c(h:B5 q L d i g s w):w.cell? ⟨q,0,none⟩=some (.int .i64 L)∧w.cell? ⟨q,1,none⟩=some (.bool d)∧w.cell? ⟨q,2,none⟩=some (.bool i)∧w.cell? ⟨q,3,none⟩=some (.bool g)∧w.cell? ⟨q,4,none⟩=some (.bool s):=
 ⟨by rw[cell_of_row w q 0 _ _ _ h];rfl,by rw[cell_of_row w q 1 _ _ _ h];rfl,by rw[cell_of_row w q 2 _ _ _ h];rfl,by rw[cell_of_row w q 3 _ _ _ h];rfl,by rw[cell_of_row w q 4 _ _ _ h];rfl⟩
theorem B5.f(h:B5 q L d i g s w)(j:Nat):w.frozen? ⟨q,j,none⟩=false:=frozen_of_row w q j _ _ h
theorem B5.new(w:World)(L:Int)(d i g s:Bool):B5 w.heap.size L d i g s (w.alloc (.cells #[.int .i64 L,.bool d,.bool i,.bool g,.bool s] 26)):=heap_alloc_new w _
def set5(w:World)(q:Nat)(L:Int)(d i g s:Bool):World:=((((w.setCell ⟨q,0,none⟩ (.int .i64 L)).setCell ⟨q,1,none⟩ (.bool d)).setCell ⟨q,2,none⟩ (.bool i)).setCell ⟨q,3,none⟩ (.bool g)).setCell ⟨q,4,none⟩ (.bool s)
theorem B5.put(h:B5 q L d i g s w)(L':Int)(d' i' g' s':Bool):B5 q L' d' i' g' s' (set5 w q L' d' i' g' s'):=
 heap_setCell_same _ q 4 _ _ _ (heap_setCell_same _ q 3 _ _ _ (heap_setCell_same _ q 2 _ _ _ (heap_setCell_same _ q 1 _ _ _ (heap_setCell_same _ q 0 _ _ _ h))))
theorem B5.cput(h:B5 q L d i g s w)(L':Int)(d' i' g' s':Bool):(((((w.setCell ⟨q,0,none⟩ (.int .i64 L')).setCell ⟨q,1,none⟩ (.bool d')).setCell ⟨q,2,none⟩ (.bool i')).setCell ⟨q,3,none⟩ (.bool g')).setCell ⟨q,4,none⟩ (.bool s')).cell? ⟨q,0,none⟩=some (.int .i64 L')∧(((((w.setCell ⟨q,0,none⟩ (.int .i64 L')).setCell ⟨q,1,none⟩ (.bool d')).setCell ⟨q,2,none⟩ (.bool i')).setCell ⟨q,3,none⟩ (.bool g')).setCell ⟨q,4,none⟩ (.bool s')).cell? ⟨q,1,none⟩=some (.bool d')∧(((((w.setCell ⟨q,0,none⟩ (.int .i64 L')).setCell ⟨q,1,none⟩ (.bool d')).setCell ⟨q,2,none⟩ (.bool i')).setCell ⟨q,3,none⟩ (.bool g')).setCell ⟨q,4,none⟩ (.bool s')).cell? ⟨q,2,none⟩=some (.bool i')∧(((((w.setCell ⟨q,0,none⟩ (.int .i64 L')).setCell ⟨q,1,none⟩ (.bool d')).setCell ⟨q,2,none⟩ (.bool i')).setCell ⟨q,3,none⟩ (.bool g')).setCell ⟨q,4,none⟩ (.bool s')).cell? ⟨q,3,none⟩=some (.bool g')∧(((((w.setCell ⟨q,0,none⟩ (.int .i64 L')).setCell ⟨q,1,none⟩ (.bool d')).setCell ⟨q,2,none⟩ (.bool i')).setCell ⟨q,3,none⟩ (.bool g')).setCell ⟨q,4,none⟩ (.bool s')).cell? ⟨q,4,none⟩=some (.bool s'):=
 (h.put L' d' i' g' s').c
theorem below_set5{B:Nat}{W:World}(h:Below B W w)(hq:B≤q)(L':Int)(d' i' g' s':Bool):Below B W (set5 w q L' d' i' g' s'):=
 ((((h.setCell (p:=⟨q,0,none⟩) hq _).setCell (p:=⟨q,1,none⟩) hq _).setCell (p:=⟨q,2,none⟩) hq _).setCell (p:=⟨q,3,none⟩) hq _).setCell (p:=⟨q,4,none⟩) hq _
end
def sdI(v:Int):Int×Int:=
 if v=3 then(3,4)else if v=4 then(4,5)else if v=6 then(7,7)else if v=7 then(8,8)else if v=8 then(8,9)else if v=9 then(9,10)else if v=10 then(10,11)else if v=12 then(13,11)else(0,0)
def sdS(v:Int):Int×Int:=
 if v=3 then(3,4)else if v=4 then(4,5)else if v=6 then(7,7)else if v=7 then(8,8)else if v=8 then(8,9)else if v=9 then(9,10)else if v=10 then(10,11)else(13,11)
def lvls(k op:Int):Int×Int:=
 if k=15 then(14,1)else if k=14 then(3,2)else if k=13 then(5,5)else if k=11 then(11,11)else if k=9∨k=10∨k=6 then(14,14)else sdI (opLevel op)
def brk(k op:Int)(n:Nat):Bool:=levelOf k op==15||(k==13&&decide (1<n))
def nsI(k op K:Int)(s:Bool):Bool:=
 if k=11∨k=9∨k=10∨k=6 then false else if k=12∧K=1∧op=99 then true else(K==0&&s)
set_option maxHeartbeats 1600000 in
theorem impl_sides(op:Int)(w:World):Calls Tryz.prog 238 #[.int .i64 op] w fun e w'=>e= .returned (.tuple #[.int .i64 (sdI (opLevel op)).1,.int .i64 (sdI (opLevel op)).2])∧Below w.heap.size w w':=by
 obtain⟨V,hV⟩:∃V,opLevel op=V:=⟨_,rfl⟩
 have HV:=hid hV
 clear hV
 have HO:=hid (lv.impl_op op w)
 rw[HV.out]at HO⊢
 go_enter Tryz.func238,Tryz.ntmps238
 go_wp2_with (go_at_call 140;refine HO.mono ?_;rintro e w1 ⟨rfl,b1⟩)
 all_goals
  go_ret2
  exact⟨by simp_all[sdI],b1⟩
set_option maxHeartbeats 1600000 in
theorem impl_lvls(k op:Int)(x y:ByteArray)(a:Option Addr)(n cap:Nat)(w:World):Calls Tryz.prog 237 #[.agg #[.int .i64 k,.int .i64 op,.string x,.string y,.slice a n cap]] w fun e w'=>e= .returned (.tuple #[.int .i64 (lvls k op).1,.int .i64 (lvls k op).2])∧Below w.heap.size w w':=by
 obtain⟨p,hp⟩:∃p,sdI (opLevel op)=p:=⟨_,rfl⟩
 obtain⟨p1,p2⟩:=p
 have HQ:=hid hp
 clear hp
 have HO:=hid (fun W=>impl_sides op W)
 rw[HQ.out]at HO
 dsimp only at HO
 go_enter Tryz.func237,Tryz.ntmps237
 go_wp2_with (go_at_call 238;refine(HO.out _).mono ?_;rintro e w1 ⟨rfl,b1⟩)
 all_goals
  go_ret2
  exact⟨by have:=HQ.out;simp_all[lvls],by first|exact box_below _ _|exact(box_below w _).trans ((by assumption:Below _ _ _).mono (by simp))⟩
theorem impl_kidLevel(k op K:Int)(x y:ByteArray)(a:Option Addr)(n cap:Nat)(w:World):Calls Tryz.prog 232 #[.agg #[.int .i64 k,.int .i64 op,.string x,.string y,.slice a n cap],.int .i64 K] w fun e w'=>e= .returned (.int .i64 (if K=0 then(lvls k op).1 else(lvls k op).2))∧Below w.heap.size w w':=by
 obtain⟨p,hp⟩:∃p,lvls k op=p:=⟨_,rfl⟩
 obtain⟨p1,p2⟩:=p
 have HO:=hid (fun W=>impl_lvls k op x y a n cap W)
 rw[hp]at HO⊢
 clear hp
 dsimp only at HO⊢
 by_cases h0:K=0
 ·subst h0
  go_enter Tryz.func232,Tryz.ntmps232
  go_wp2_with (go_at_call 237;refine(HO.out _).mono ?_;rintro e w1 ⟨rfl,b1⟩)
  go_ret
  exact⟨rfl,(box_below w _).trans (b1.mono (by simp))⟩
 ·rw[if_neg h0]
  go_enter Tryz.func232,Tryz.ntmps232
  go_wp2_with (go_at_call 237;refine(HO.out _).mono ?_;rintro e w1 ⟨rfl,b1⟩)
  go_ret
  exact⟨rfl,(box_below w _).trans (b1.mono (by simp))⟩
set_option maxHeartbeats 1600000 in
theorem impl_brk(k op:Int)(x y:ByteArray)(a:Option Addr)(n cap:Nat)(w:World)(hn:n≤1048576):Calls Tryz.prog 231 #[.agg #[.int .i64 k,.int .i64 op,.string x,.string y,.slice a n cap]] w fun e w'=>e= .returned (.bool (brk k op n))∧Below w.heap.size w w':=by
 obtain⟨V,hV⟩:∃V,levelOf k op=V:=⟨_,rfl⟩
 have HV:=hid hV
 clear hV
 have HB:=hid (Bx.start w k op x y (.slice a n cap) 57)
 by_cases h15:V=15
 ·subst h15
  have HE:=hid (show brk k op n=true by unfold brk;rw[HV.out];rfl)
  go_enter Tryz.func231,Tryz.ntmps231
  go_wp2_with (go_at_call 90;refine(lv.impl_level k op x y a n cap _).mono ?_;rw[HV.out];rintro e w1 ⟨rfl,b1⟩;have X1:=hid (HB.keep b1);obtain⟨c0,c1,c2,c3,c4,-,-⟩:=X1.out;clear b1)
  go_ret
  exact⟨by rw[HE.out];rfl,X1.b⟩
 have hv:(V==15)=false:=by simp[h15]
 by_cases h13:k=13
 ·have HE:=hid (show brk k op n=decide (1<n) by unfold brk;rw[HV.out,hv,h13];rfl)
  subst h13
  by_cases h1:1<n
  ·have h2:(1:Int)<(n:Int):=by omega
   go_enter Tryz.func231,Tryz.ntmps231
   go_wp2_with (go_at_call 90;refine(lv.impl_level 13 op x y a n cap _).mono ?_;rw[HV.out];rintro e w1 ⟨rfl,b1⟩;have X1:=hid (HB.keep b1);obtain⟨c0,c1,c2,c3,c4,-,-⟩:=X1.out;clear b1)
   go_ret
   exact⟨by rw[HE.out,decide_eq_true h1];rfl,X1.b⟩
  ·have h2:¬(1:Int)<(n:Int):=by omega
   have h3:decide ((1:Int)<(n:Int))=false:=decide_eq_false h2
   go_enter Tryz.func231,Tryz.ntmps231
   go_wp2_with (go_at_call 90;refine(lv.impl_level 13 op x y a n cap _).mono ?_;rw[HV.out];rintro e w1 ⟨rfl,b1⟩;have X1:=hid (HB.keep b1);obtain⟨c0,c1,c2,c3,c4,-,-⟩:=X1.out;clear b1)
   go_ret
   exact⟨by rw[HE.out,decide_eq_false h1,←h3];rfl,X1.b⟩
 ·have HE:=hid (show brk k op n=false by unfold brk;rw[HV.out,hv];simp[h13])
  go_enter Tryz.func231,Tryz.ntmps231
  go_wp2_with (go_at_call 90;refine(lv.impl_level k op x y a n cap _).mono ?_;rw[HV.out];rintro e w1 ⟨rfl,b1⟩;have X1:=hid (HB.keep b1);obtain⟨c0,c1,c2,c3,c4,-,-⟩:=X1.out;clear b1)
  go_ret
  exact⟨by rw[HE.out];rfl,X1.b⟩
set_option maxHeartbeats 1600000 in
theorem impl_ns(k op K L:Int)(x y:ByteArray)(a:Option Addr)(n cap:Nat)(d i g s:Bool)(w:World):Calls Tryz.prog 233 #[.agg #[.int .i64 k,.int .i64 op,.string x,.string y,.slice a n cap],.int .i64 K,.agg #[.int .i64 L,.bool d,.bool i,.bool g,.bool s]] w fun e w'=>e= .returned (.bool (nsI k op K s))∧Below w.heap.size w w':=by
 by_cases h0:K=0
 ·subst h0
  go_enter Tryz.func233,Tryz.ntmps233
  go_wp2
  all_goals
   go_ret
   exact⟨congrArg (fun b=>Ending.returned (Value.bool b)) (by simp_all[nsI]),(box_below w _).trans ((box_below _ _).mono (by simp))⟩
 ·by_cases h1:K=1
  ·subst h1
   go_enter Tryz.func233,Tryz.ntmps233
   go_wp2
   all_goals
    go_ret
    exact⟨congrArg (fun b=>Ending.returned (Value.bool b)) (by simp_all[nsI]),(box_below w _).trans ((box_below _ _).mono (by simp))⟩
  ·go_enter Tryz.func233,Tryz.ntmps233
   go_wp2
   all_goals
    go_ret
    exact⟨congrArg (fun b=>Ending.returned (Value.bool b)) (by simp_all[nsI]),(box_below w _).trans ((box_below _ _).mono (by simp))⟩
end Go.Proofs.YtnoagleifffkcaaGreatDoor.ps

namespace Go.Proofs.YtnoagleifffkcaaGreatDoor.ps
open Lib (hid)
open Go.ChangeShapes Go.WideShapes Go.ChangeAt Go.RowKit
open chars (inR)
open lv (levelOf opLevel box_below Bx)
set_option linter.unusedVariables false
set_option maxRecDepth 20000
def top:Ps:=⟨1,false,false,false,false⟩
def zero:Ps:=⟨0,false,false,false,false⟩
def kidI(k op:Int)(n:Nat)(K L:Int)(d i g s:Bool):Ps:=
 if posOk L d=true∧0≤K∧K<(n:Int)∧¬levelOf k op=0 then
  (if brk k op n=true then top else⟨if K=0 then(lvls k op).1 else(lvls k op).2,k==6,i,g,nsI k op K s⟩)
 else zero
structure Kb(w W:World)(k op:Int)(x y:ByteArray)(v:Value)(L:Int)(d i g s:Bool):Prop where
 n:Bx w W k op x y v
 p:Px (w.heap.size+1) W L d i g s
 r:B5 (w.heap.size+1+1) 0 false false false false W
theorem Kb.start(w:World)(k op:Int)(x y:ByteArray)(v:Value)(L:Int)(d i g s:Bool):Kb w (((w.alloc (.cells #[.int .i64 k,.int .i64 op,.string x,.string y,v] 57)).alloc (.cells #[.int .i64 L,.bool d,.bool i,.bool g,.bool s] 26)).alloc (.cells #[.int .i64 0,.bool false,.bool false,.bool false,.bool false] 26)) k op x y v L d i g s:=by
 have h:=Nb.start w k op x y v L d i g s
 refine⟨h.n.keep (box_below _ _),h.p.keep (box_below _ _), ?_⟩
 have h:=B5.new ((w.alloc (.cells #[.int .i64 k,.int .i64 op,.string x,.string y,v] 57)).alloc (.cells #[.int .i64 L,.bool d,.bool i,.bool g,.bool s] 26)) 0 false false false false
 have e:((w.alloc (.cells #[.int .i64 k,.int .i64 op,.string x,.string y,v] 57)).alloc (.cells #[.int .i64 L,.bool d,.bool i,.bool g,.bool s] 26)).heap.size=w.heap.size+1+1:=by simp
 rw[e]at h
 exact h
theorem Kb.keep{w W w1:World}{k op:Int}{x y:ByteArray}{v:Value}{L:Int}{d i g s:Bool}(h:Kb w W k op x y v L d i g s)(hb:Below W.heap.size W w1):Kb w w1 k op x y v L d i g s:=
 ⟨h.n.keep hb,h.p.keep hb,h.r.keep hb h.r.lt⟩
theorem Kb.drew{w W:World}{k op:Int}{x y:ByteArray}{v:Value}{L:Int}{d i g s:Bool}(h:Kb w W k op x y v L d i g s):Kb w W.drew k op x y v L d i g s:=⟨bx_drew h.n,h.p.drew,h.r.drew⟩
theorem kb_cells{w W:World}{k op:Int}{x y:ByteArray}{v:Value}{L:Int}{d i g s:Bool}(h:Kb w W k op x y v L d i g s):W.cell? ⟨w.heap.size,0,none⟩=some (.int .i64 k)∧W.cell? ⟨w.heap.size,1,none⟩=some (.int .i64 op)∧W.cell? ⟨w.heap.size,2,none⟩=some (.string x)∧W.cell? ⟨w.heap.size,3,none⟩=some (.string y)∧W.cell? ⟨w.heap.size,4,none⟩=some (v)∧W.cell? ⟨w.heap.size+1,0,none⟩=some (.int .i64 L)∧W.cell? ⟨w.heap.size+1,1,none⟩=some (.bool d)∧W.cell? ⟨w.heap.size+1,2,none⟩=some (.bool i)∧W.cell? ⟨w.heap.size+1,3,none⟩=some (.bool g)∧W.cell? ⟨w.heap.size+1,4,none⟩=some (.bool s):=
 ⟨h.n.c0,h.n.c1,h.n.c2,h.n.c3,h.n.c4,h.p.c0,h.p.c1,h.p.c2,h.p.c3,h.p.c4⟩
theorem kb_store{w W:World}{k op:Int}{x y:ByteArray}{v:Value}{L:Int}{d i g s:Bool}(h:Kb w W k op x y v L d i g s)(L':Int)(d' i' g' s':Bool):(((((W.setCell ⟨w.heap.size+1+1,0,none⟩ (.int .i64 L')).setCell ⟨w.heap.size+1+1,1,none⟩ (.bool d')).setCell ⟨w.heap.size+1+1,2,none⟩ (.bool i')).setCell ⟨w.heap.size+1+1,3,none⟩ (.bool g')).setCell ⟨w.heap.size+1+1,4,none⟩ (.bool s')).cell? ⟨w.heap.size,0,none⟩=some (.int .i64 k)∧(((((W.setCell ⟨w.heap.size+1+1,0,none⟩ (.int .i64 L')).setCell ⟨w.heap.size+1+1,1,none⟩ (.bool d')).setCell ⟨w.heap.size+1+1,2,none⟩ (.bool i')).setCell ⟨w.heap.size+1+1,3,none⟩ (.bool g')).setCell ⟨w.heap.size+1+1,4,none⟩ (.bool s')).cell? ⟨w.heap.size,1,none⟩=some (.int .i64 op)∧(((((W.setCell ⟨w.heap.size+1+1,0,none⟩ (.int .i64 L')).setCell ⟨w.heap.size+1+1,1,none⟩ (.bool d')).setCell ⟨w.heap.size+1+1,2,none⟩ (.bool i')).setCell ⟨w.heap.size+1+1,3,none⟩ (.bool g')).setCell ⟨w.heap.size+1+1,4,none⟩ (.bool s')).cell? ⟨w.heap.size,2,none⟩=some (.string x)∧(((((W.setCell ⟨w.heap.size+1+1,0,none⟩ (.int .i64 L')).setCell ⟨w.heap.size+1+1,1,none⟩ (.bool d')).setCell ⟨w.heap.size+1+1,2,none⟩ (.bool i')).setCell ⟨w.heap.size+1+1,3,none⟩ (.bool g')).setCell ⟨w.heap.size+1+1,4,none⟩ (.bool s')).cell? ⟨w.heap.size,3,none⟩=some (.string y)∧(((((W.setCell ⟨w.heap.size+1+1,0,none⟩ (.int .i64 L')).setCell ⟨w.heap.size+1+1,1,none⟩ (.bool d')).setCell ⟨w.heap.size+1+1,2,none⟩ (.bool i')).setCell ⟨w.heap.size+1+1,3,none⟩ (.bool g')).setCell ⟨w.heap.size+1+1,4,none⟩ (.bool s')).cell? ⟨w.heap.size,4,none⟩=some (v)∧(((((W.setCell ⟨w.heap.size+1+1,0,none⟩ (.int .i64 L')).setCell ⟨w.heap.size+1+1,1,none⟩ (.bool d')).setCell ⟨w.heap.size+1+1,2,none⟩ (.bool i')).setCell ⟨w.heap.size+1+1,3,none⟩ (.bool g')).setCell ⟨w.heap.size+1+1,4,none⟩ (.bool s')).cell? ⟨w.heap.size+1,0,none⟩=some (.int .i64 L)∧(((((W.setCell ⟨w.heap.size+1+1,0,none⟩ (.int .i64 L')).setCell ⟨w.heap.size+1+1,1,none⟩ (.bool d')).setCell ⟨w.heap.size+1+1,2,none⟩ (.bool i')).setCell ⟨w.heap.size+1+1,3,none⟩ (.bool g')).setCell ⟨w.heap.size+1+1,4,none⟩ (.bool s')).cell? ⟨w.heap.size+1,1,none⟩=some (.bool d)∧(((((W.setCell ⟨w.heap.size+1+1,0,none⟩ (.int .i64 L')).setCell ⟨w.heap.size+1+1,1,none⟩ (.bool d')).setCell ⟨w.heap.size+1+1,2,none⟩ (.bool i')).setCell ⟨w.heap.size+1+1,3,none⟩ (.bool g')).setCell ⟨w.heap.size+1+1,4,none⟩ (.bool s')).cell? ⟨w.heap.size+1,2,none⟩=some (.bool i)∧(((((W.setCell ⟨w.heap.size+1+1,0,none⟩ (.int .i64 L')).setCell ⟨w.heap.size+1+1,1,none⟩ (.bool d')).setCell ⟨w.heap.size+1+1,2,none⟩ (.bool i')).setCell ⟨w.heap.size+1+1,3,none⟩ (.bool g')).setCell ⟨w.heap.size+1+1,4,none⟩ (.bool s')).cell? ⟨w.heap.size+1,3,none⟩=some (.bool g)∧(((((W.setCell ⟨w.heap.size+1+1,0,none⟩ (.int .i64 L')).setCell ⟨w.heap.size+1+1,1,none⟩ (.bool d')).setCell ⟨w.heap.size+1+1,2,none⟩ (.bool i')).setCell ⟨w.heap.size+1+1,3,none⟩ (.bool g')).setCell ⟨w.heap.size+1+1,4,none⟩ (.bool s')).cell? ⟨w.heap.size+1,4,none⟩=some (.bool s):=by
 have hb:Below (w.heap.size+1+1) W (set5 W (w.heap.size+1+1) L' d' i' g' s'):=below_set5 (Below.refl _ _) (Nat.le_refl _) _ _ _ _ _
 have h0:w.heap.size<w.heap.size+1+1:=by omega
 have h1:w.heap.size+1<w.heap.size+1+1:=by omega
 exact⟨(hb.cell (p:=⟨w.heap.size,0,none⟩) h0).trans h.n.c0,(hb.cell (p:=⟨w.heap.size,1,none⟩) h0).trans h.n.c1,(hb.cell (p:=⟨w.heap.size,2,none⟩) h0).trans h.n.c2,(hb.cell (p:=⟨w.heap.size,3,none⟩) h0).trans h.n.c3,(hb.cell (p:=⟨w.heap.size,4,none⟩) h0).trans h.n.c4,
  (hb.cell (p:=⟨w.heap.size+1,0,none⟩) h1).trans h.p.c0,(hb.cell (p:=⟨w.heap.size+1,1,none⟩) h1).trans h.p.c1,(hb.cell (p:=⟨w.heap.size+1,2,none⟩) h1).trans h.p.c2,(hb.cell (p:=⟨w.heap.size+1,3,none⟩) h1).trans h.p.c3,(hb.cell (p:=⟨w.heap.size+1,4,none⟩) h1).trans h.p.c4⟩
set_option maxHeartbeats 3200000 in
theorem impl_kidPos(k op:Int)(x y:ByteArray)(a:Option Addr)(n cap:Nat)(K L:Int)(d i g s:Bool)(w:World)(hn:n≤1048576):Calls Tryz.prog 213 #[.agg #[.int .i64 k,.int .i64 op,.string x,.string y,.slice a n cap],.int .i64 K,.agg #[.int .i64 L,.bool d,.bool i,.bool g,.bool s]] w fun e w'=>e= .returned (.agg #[.int .i64 (kidI k op n K L d i g s).l,.bool (kidI k op n K L d i g s).d,.bool (kidI k op n K L d i g s).i,.bool (kidI k op n K L d i g s).g,.bool (kidI k op n K L d i g s).s])∧Below w.heap.size w w':=by
 have HB:=hid (Kb.start w k op x y (.slice a n cap) L d i g s)
 obtain⟨P,hP⟩:∃P,posOk L d=P:=⟨_,rfl⟩
 have HP:=hid hP
 obtain⟨V,hV⟩:∃V,levelOf k op=V:=⟨_,rfl⟩
 have HV:=hid hV
 obtain⟨B,hB⟩:∃B,brk k op n=B:=⟨_,rfl⟩
 have HK:=hid hB
 obtain⟨q,hq⟩:∃q,kidI k op n K L d i g s=q:=⟨_,rfl⟩
 have HQ:=hid hq
 rw[hq]
 unfold kidI at hq
 rw[hP,hV,hB]at hq
 clear hP hV hB
 cases P
 ·rw[if_neg (by simp)]at hq
  subst hq
  clear HQ
  go_enter Tryz.func213,Tryz.ntmps213
  go_wp2_with (first|(go_at_call 25;refine(impl_ok L d i g s _).mono ?_;rw[HP.out];rintro e w5 ⟨rfl,b5⟩;have X5:=hid (HB.keep b5);obtain⟨aL,al,aq,av,an,-,-⟩:=X5.n;obtain⟨af,ah,aB,ab,G,-⟩:=X5.p;obtain⟨ao,am,J,ay,ar⟩:=X5.r.c;have f5:=X5.r.f;clear b5)|(go_at_call 90;refine(lv.impl_level k op x y a n cap _).mono ?_;rw[HV.out];rintro e w6 ⟨rfl,b6⟩;have X6:=hid (X5.keep b6);obtain⟨ag,aK,a8,a1,aC,-,-⟩:=X6.n;obtain⟨a0,a7,Y,aA,aa,-⟩:=X6.p;obtain⟨O,S,aF,aj,a9⟩:=X6.r.c;have f6:=X6.r.f;clear b6)|(go_at_call 231;refine(impl_brk k op x y a n cap _ hn).mono ?_;rw[HK.out];rintro e w7 ⟨rfl,b7⟩;have X7:=hid (X6.keep b7);obtain⟨ad,X,ap,aH,a4,-,-⟩:=X7.n;obtain⟨aQ,aR,aw,ai,Z,-⟩:=X7.p;obtain⟨az,aI,aJ,a3,ax⟩:=X7.r.c;have f7:=X7.r.f;clear b7)|(go_at_call 55;refine(impl_top _).mono ?_;rintro e w8 ⟨rfl,b8⟩;have X8:=hid (X7.keep b8);obtain⟨au,aD,I,aN,a5,-,-⟩:=X8.n;obtain⟨aP,aM,aE,aG,a2,-⟩:=X8.p;obtain⟨ac,a6,ae,aO,aS⟩:=X8.r.c;have f8:=X8.r.f;clear b8))
  obtain⟨z0,z1,z2,z3,z4⟩:=X5.r.cput (0) (false) (false) (false) (false)
  exact bodyPost_ret (v:= .agg #[.int .i64 (0),.bool (false),.bool (false),.bool (false),.bool (false)]) (by simp[results,Tryz.results213,go_sem,z0,z1,z2,z3,z4]) rfl ⟨rfl,below_set5 X5.n.b (by omega) _ _ _ _ _⟩
 by_cases h1:0≤K∧K<(n:Int)∧¬V=0
 ·obtain⟨g1,g2,g3⟩:=h1
  rw[if_pos ⟨rfl,g1,g2,g3⟩]at hq
  have k1:¬K<0:=by omega
  have k2:¬(n:Int)≤K:=by omega
  have e1:decide (K<0)=false:=decide_eq_false k1
  have e2:decide ((n:Int)≤K)=false:=decide_eq_false k2
  have e3:(V==0)=false:=by simp[g3]
  clear k1 k2 g1 g2
  cases B
  ·obtain⟨LV,hLV⟩:∃LV,(if K=0 then(lvls k op).1 else(lvls k op).2)=LV:=⟨_,rfl⟩
   obtain⟨NS,hNS⟩:∃NS,nsI k op K s=NS:=⟨_,rfl⟩
   have HL:=hid hLV
   have HN:=hid hNS
   rw[if_neg (by simp),hLV,hNS]at hq
   subst hq
   clear HQ hLV hNS
   go_enter Tryz.func213,Tryz.ntmps213
   go_wp2_with (first|(go_at_call 25;refine(impl_ok L d i g s _).mono ?_;rw[HP.out];rintro e w5 ⟨rfl,b5⟩;have X5:=hid (HB.keep b5);obtain⟨aL,al,aq,av,an,-,-⟩:=X5.n;obtain⟨af,ah,aB,ab,G,-⟩:=X5.p;obtain⟨ao,am,J,ay,ar⟩:=X5.r.c;have f5:=X5.r.f;clear b5)|(go_at_call 90;refine(lv.impl_level k op x y a n cap _).mono ?_;rw[HV.out];rintro e w6 ⟨rfl,b6⟩;have X6:=hid (X5.keep b6);obtain⟨ag,aK,a8,a1,aC,-,-⟩:=X6.n;obtain⟨a0,a7,Y,aA,aa,-⟩:=X6.p;obtain⟨O,S,aF,aj,a9⟩:=X6.r.c;have f6:=X6.r.f;clear b6)|(go_at_call 231;refine(impl_brk k op x y a n cap _ hn).mono ?_;rw[HK.out];rintro e w7 ⟨rfl,b7⟩;have X7:=hid (X6.keep b7);obtain⟨ad,X,ap,aH,a4,-,-⟩:=X7.n;obtain⟨aQ,aR,aw,ai,Z,-⟩:=X7.p;obtain⟨az,aI,aJ,a3,ax⟩:=X7.r.c;have f7:=X7.r.f;clear b7)|(go_at_call 55;refine(impl_top _).mono ?_;rintro e w8 ⟨rfl,b8⟩;have X8:=hid (X7.keep b8);obtain⟨au,aD,I,aN,a5,-,-⟩:=X8.n;obtain⟨aP,aM,aE,aG,a2,-⟩:=X8.p;obtain⟨ac,a6,ae,aO,aS⟩:=X8.r.c;have f8:=X8.r.f;clear b8))
   go_region_held3 (fun w'=>w'.cell? ⟨w.heap.size,0,none⟩=some (.int .i64 k)∧w'.cell? ⟨w.heap.size,1,none⟩=some (.int .i64 op)∧w'.cell? ⟨w.heap.size,2,none⟩=some (.string x)∧w'.cell? ⟨w.heap.size,3,none⟩=some (.string y)∧w'.cell? ⟨w.heap.size,4,none⟩=some (.slice a n cap)∧w'.cell? ⟨w.heap.size+1,0,none⟩=some (.int .i64 L)∧w'.cell? ⟨w.heap.size+1,1,none⟩=some (.bool d)∧w'.cell? ⟨w.heap.size+1,2,none⟩=some (.bool i)∧w'.cell? ⟨w.heap.size+1,3,none⟩=some (.bool g)∧w'.cell? ⟨w.heap.size+1,4,none⟩=some (.bool s))
    (first|assumption|with_reducible exact kb_cells X7.out.drew|with_reducible exact kb_cells X7.out|with_reducible exact kb_cells F.out|with_reducible exact kb_cells j.out|with_reducible exact kb_store j.out _ _ _ _ _)
    (first
     |(go_at_call 232;refine(impl_kidLevel k op K x y a n cap _).mono ?_;rw[HL.out];rintro e bo ⟨rfl,aT⟩;have F:=hid (X7.drew.keep aT);obtain⟨bq,bz,bc,bx,bj,-,-⟩:=F.n;obtain⟨bb,aZ,ba,b2,bf,-⟩:=F.p;obtain⟨bi,bk,bw,bn,bg⟩:=F.r.c;have aY:=F.r.f;clear aT)
     |(go_at_call 233;refine(impl_ns k op K L x y a n cap d i g s _).mono ?_;rw[HN.out];rintro e b1 ⟨rfl,aU⟩;have j:=hid (F.keep aU);obtain⟨b3,bu,b0,bh,bs,-,-⟩:=j.n;obtain⟨aV,bp,aX,be,bt,-⟩:=j.p;obtain⟨bm,br,b4,bv,bd⟩:=j.r.c;have aW:=j.r.f;clear aU))
   go_wp2
   obtain⟨z0,z1,z2,z3,z4⟩:=j.r.cput (LV) (k==6) (i) (g) (NS)
   exact bodyPost_ret (v:= .agg #[.int .i64 (LV),.bool (k==6),.bool (i),.bool (g),.bool (NS)]) (by simp[results,Tryz.results213,go_sem,z0,z1,z2,z3,z4]) rfl ⟨rfl,below_set5 j.n.b (by omega) _ _ _ _ _⟩
  ·rw[if_pos rfl]at hq
   subst hq
   clear HQ
   go_enter Tryz.func213,Tryz.ntmps213
   go_wp2_with (first|(go_at_call 25;refine(impl_ok L d i g s _).mono ?_;rw[HP.out];rintro e w5 ⟨rfl,b5⟩;have X5:=hid (HB.keep b5);obtain⟨aL,al,aq,av,an,-,-⟩:=X5.n;obtain⟨af,ah,aB,ab,G,-⟩:=X5.p;obtain⟨ao,am,J,ay,ar⟩:=X5.r.c;have f5:=X5.r.f;clear b5)|(go_at_call 90;refine(lv.impl_level k op x y a n cap _).mono ?_;rw[HV.out];rintro e w6 ⟨rfl,b6⟩;have X6:=hid (X5.keep b6);obtain⟨ag,aK,a8,a1,aC,-,-⟩:=X6.n;obtain⟨a0,a7,Y,aA,aa,-⟩:=X6.p;obtain⟨O,S,aF,aj,a9⟩:=X6.r.c;have f6:=X6.r.f;clear b6)|(go_at_call 231;refine(impl_brk k op x y a n cap _ hn).mono ?_;rw[HK.out];rintro e w7 ⟨rfl,b7⟩;have X7:=hid (X6.keep b7);obtain⟨ad,X,ap,aH,a4,-,-⟩:=X7.n;obtain⟨aQ,aR,aw,ai,Z,-⟩:=X7.p;obtain⟨az,aI,aJ,a3,ax⟩:=X7.r.c;have f7:=X7.r.f;clear b7)|(go_at_call 55;refine(impl_top _).mono ?_;rintro e w8 ⟨rfl,b8⟩;have X8:=hid (X7.keep b8);obtain⟨au,aD,I,aN,a5,-,-⟩:=X8.n;obtain⟨aP,aM,aE,aG,a2,-⟩:=X8.p;obtain⟨ac,a6,ae,aO,aS⟩:=X8.r.c;have f8:=X8.r.f;clear b8))
   obtain⟨z0,z1,z2,z3,z4⟩:=X8.r.cput (1) (false) (false) (false) (false)
   exact bodyPost_ret (v:= .agg #[.int .i64 (1),.bool (false),.bool (false),.bool (false),.bool (false)]) (by simp[results,Tryz.results213,go_sem,z0,z1,z2,z3,z4]) rfl ⟨rfl,below_set5 X8.n.b (by omega) _ _ _ _ _⟩
 ·rw[if_neg (fun h=>h1 h.2)]at hq
  subst hq
  clear HQ
  by_cases k1:K<0
  ·clear h1
   go_enter Tryz.func213,Tryz.ntmps213
   go_wp2_with (first|(go_at_call 25;refine(impl_ok L d i g s _).mono ?_;rw[HP.out];rintro e w5 ⟨rfl,b5⟩;have X5:=hid (HB.keep b5);obtain⟨aL,al,aq,av,an,-,-⟩:=X5.n;obtain⟨af,ah,aB,ab,G,-⟩:=X5.p;obtain⟨ao,am,J,ay,ar⟩:=X5.r.c;have f5:=X5.r.f;clear b5)|(go_at_call 90;refine(lv.impl_level k op x y a n cap _).mono ?_;rw[HV.out];rintro e w6 ⟨rfl,b6⟩;have X6:=hid (X5.keep b6);obtain⟨ag,aK,a8,a1,aC,-,-⟩:=X6.n;obtain⟨a0,a7,Y,aA,aa,-⟩:=X6.p;obtain⟨O,S,aF,aj,a9⟩:=X6.r.c;have f6:=X6.r.f;clear b6)|(go_at_call 231;refine(impl_brk k op x y a n cap _ hn).mono ?_;rw[HK.out];rintro e w7 ⟨rfl,b7⟩;have X7:=hid (X6.keep b7);obtain⟨ad,X,ap,aH,a4,-,-⟩:=X7.n;obtain⟨aQ,aR,aw,ai,Z,-⟩:=X7.p;obtain⟨az,aI,aJ,a3,ax⟩:=X7.r.c;have f7:=X7.r.f;clear b7)|(go_at_call 55;refine(impl_top _).mono ?_;rintro e w8 ⟨rfl,b8⟩;have X8:=hid (X7.keep b8);obtain⟨au,aD,I,aN,a5,-,-⟩:=X8.n;obtain⟨aP,aM,aE,aG,a2,-⟩:=X8.p;obtain⟨ac,a6,ae,aO,aS⟩:=X8.r.c;have f8:=X8.r.f;clear b8))
   obtain⟨z0,z1,z2,z3,z4⟩:=X5.r.cput (0) (false) (false) (false) (false)
   exact bodyPost_ret (v:= .agg #[.int .i64 (0),.bool (false),.bool (false),.bool (false),.bool (false)]) (by simp[results,Tryz.results213,go_sem,z0,z1,z2,z3,z4]) rfl ⟨rfl,below_set5 X5.n.b (by omega) _ _ _ _ _⟩
  by_cases k2:(n:Int)≤K
  ·clear h1
   go_enter Tryz.func213,Tryz.ntmps213
   go_wp2_with (first|(go_at_call 25;refine(impl_ok L d i g s _).mono ?_;rw[HP.out];rintro e w5 ⟨rfl,b5⟩;have X5:=hid (HB.keep b5);obtain⟨aL,al,aq,av,an,-,-⟩:=X5.n;obtain⟨af,ah,aB,ab,G,-⟩:=X5.p;obtain⟨ao,am,J,ay,ar⟩:=X5.r.c;have f5:=X5.r.f;clear b5)|(go_at_call 90;refine(lv.impl_level k op x y a n cap _).mono ?_;rw[HV.out];rintro e w6 ⟨rfl,b6⟩;have X6:=hid (X5.keep b6);obtain⟨ag,aK,a8,a1,aC,-,-⟩:=X6.n;obtain⟨a0,a7,Y,aA,aa,-⟩:=X6.p;obtain⟨O,S,aF,aj,a9⟩:=X6.r.c;have f6:=X6.r.f;clear b6)|(go_at_call 231;refine(impl_brk k op x y a n cap _ hn).mono ?_;rw[HK.out];rintro e w7 ⟨rfl,b7⟩;have X7:=hid (X6.keep b7);obtain⟨ad,X,ap,aH,a4,-,-⟩:=X7.n;obtain⟨aQ,aR,aw,ai,Z,-⟩:=X7.p;obtain⟨az,aI,aJ,a3,ax⟩:=X7.r.c;have f7:=X7.r.f;clear b7)|(go_at_call 55;refine(impl_top _).mono ?_;rintro e w8 ⟨rfl,b8⟩;have X8:=hid (X7.keep b8);obtain⟨au,aD,I,aN,a5,-,-⟩:=X8.n;obtain⟨aP,aM,aE,aG,a2,-⟩:=X8.p;obtain⟨ac,a6,ae,aO,aS⟩:=X8.r.c;have f8:=X8.r.f;clear b8))
   obtain⟨z0,z1,z2,z3,z4⟩:=X5.r.cput (0) (false) (false) (false) (false)
   exact bodyPost_ret (v:= .agg #[.int .i64 (0),.bool (false),.bool (false),.bool (false),.bool (false)]) (by simp[results,Tryz.results213,go_sem,z0,z1,z2,z3,z4]) rfl ⟨rfl,below_set5 X5.n.b (by omega) _ _ _ _ _⟩
  have h0:V=0:=by
   by_cases h:V=0
   ·exact h
   ·exact absurd ⟨by omega,by omega,h⟩ h1
  clear h1
  subst h0
  go_enter Tryz.func213,Tryz.ntmps213
  go_wp2_with (first|(go_at_call 25;refine(impl_ok L d i g s _).mono ?_;rw[HP.out];rintro e w5 ⟨rfl,b5⟩;have X5:=hid (HB.keep b5);obtain⟨aL,al,aq,av,an,-,-⟩:=X5.n;obtain⟨af,ah,aB,ab,G,-⟩:=X5.p;obtain⟨ao,am,J,ay,ar⟩:=X5.r.c;have f5:=X5.r.f;clear b5)|(go_at_call 90;refine(lv.impl_level k op x y a n cap _).mono ?_;rw[HV.out];rintro e w6 ⟨rfl,b6⟩;have X6:=hid (X5.keep b6);obtain⟨ag,aK,a8,a1,aC,-,-⟩:=X6.n;obtain⟨a0,a7,Y,aA,aa,-⟩:=X6.p;obtain⟨O,S,aF,aj,a9⟩:=X6.r.c;have f6:=X6.r.f;clear b6)|(go_at_call 231;refine(impl_brk k op x y a n cap _ hn).mono ?_;rw[HK.out];rintro e w7 ⟨rfl,b7⟩;have X7:=hid (X6.keep b7);obtain⟨ad,X,ap,aH,a4,-,-⟩:=X7.n;obtain⟨aQ,aR,aw,ai,Z,-⟩:=X7.p;obtain⟨az,aI,aJ,a3,ax⟩:=X7.r.c;have f7:=X7.r.f;clear b7)|(go_at_call 55;refine(impl_top _).mono ?_;rintro e w8 ⟨rfl,b8⟩;have X8:=hid (X7.keep b8);obtain⟨au,aD,I,aN,a5,-,-⟩:=X8.n;obtain⟨aP,aM,aE,aG,a2,-⟩:=X8.p;obtain⟨ac,a6,ae,aO,aS⟩:=X8.r.c;have f8:=X8.r.f;clear b8))
  obtain⟨z0,z1,z2,z3,z4⟩:=X6.r.cput (0) (false) (false) (false) (false)
  exact bodyPost_ret (v:= .agg #[.int .i64 (0),.bool (false),.bool (false),.bool (false),.bool (false)]) (by simp[results,Tryz.results213,go_sem,z0,z1,z2,z3,z4]) rfl ⟨rfl,below_set5 X6.n.b (by omega) _ _ _ _ _⟩
end Go.Proofs.YtnoagleifffkcaaGreatDoor.ps
