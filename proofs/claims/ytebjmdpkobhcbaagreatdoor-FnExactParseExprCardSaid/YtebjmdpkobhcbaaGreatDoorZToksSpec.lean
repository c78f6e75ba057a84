/- A part of the proof; no condition of its own. -/
import Derived.Test.YtebjmdpkobhcbaaGreatDoorZGLx
namespace Go.Proofs.YtebjmdpkobhcbaaGreatDoor.tksok
open Lib (hid)
open Go.ChangeShapes Go.WideShapes Go.ChangeAt Go.RowKit
open tk
open lex (eqI neI)
set_option linter.unusedVariables false
def headOk(p:Int):List Tk→Bool
 |[]=>p !=7
 |u::_=> !((p==7&&u.k !=32)||(p==2&&u.k !=1))
def slashOk(p k:Int):Bool:=if k=5 then !operand.ends p else if k=58∨k=41 then operand.ends p else true
def okS(p:Int):List Tk→Bool
 |[]=>true
 |t::l=>tok.tokOk t.k t.s&&(headOk t.k l&&(slashOk p t.k&&okS t.k l))
theorem follow_eq(p k:Int):follow p k=(!((p==7&&k !=32)||(p==2&&k !=1))&&slashOk p k):=by
 unfold follow slashOk
 by_cases h1:p=7
 ·by_cases h2:k=32
  ·subst h1 h2;decide
  ·rw[if_pos ⟨h1,h2⟩,(eqI h1).1,(neI h2).2];simp
 ·rw[if_neg (fun h=>h1 h.1),(neI h1).1]
  by_cases h3:p=2
  ·by_cases h4:k=1
   ·subst h3 h4;decide
   ·rw[if_pos ⟨h3,h4⟩,(eqI h3).1,(neI h4).2];simp
  ·rw[if_neg (fun h=>h3 h.1),(neI h3).1]
   simp
theorem ok_eq(l:List Tk):∀p,okFrom p l=(headOk p l&&okS p l):=by
 induction l with
 |nil=>intro p;simp[okFrom,headOk,okS]
 |cons t l ih=>
  intro p
  rw[okFrom,ih t.k,follow_eq,okS,headOk]
  cases tok.tokOk t.k t.s<;>cases headOk t.k l<;>cases slashOk p t.k<;>simp
theorem ok_zero(l:List Tk):okFrom 0 l=okS 0 l:=by
 rw[ok_eq]
 cases l<;>simp[headOk]
theorem okS_cons{l:List Tk}{I:Nat}(h:I<l.length)(p:Int):okS p (l.drop I)=(tok.tokOk l[I].k l[I].s&&(headOk l[I].k (l.drop (I+1))&&(slashOk p l[I].k&&okS l[I].k (l.drop (I+1))))):=by
 rw[List.drop_eq_getElem_cons h]
 rfl
theorem head_more{l:List Tk}{I:Nat}(h:I<l.length)(k:Int):headOk k (l.drop I)= !((k==7&&l[I].k !=32)||(k==2&&l[I].k !=1)):=by
 rw[List.drop_eq_getElem_cons h]
 rfl
theorem head_none{l:List Tk}{I:Nat}(h:¬I<l.length)(k:Int):headOk k (l.drop I)=(k !=7):=by
 rw[List.drop_eq_nil_of_le (by omega)]
 rfl
def RelOkS(B:Nat)(W:World)(l:List Tk)(p i:Value)(wr:World):Prop:=
 ∃(I:Nat) (P:Int),I≤l.length∧i= .int .i64 (I:Int)∧p= .int .i64 P∧Below B W wr∧okS P (l.drop I)=okFrom 0 l
set_option maxHeartbeats 16000000 in
theorem spec_toksOk(l:List Tk)(a:Option Addr)(cap:Nat)(w:World)(hn:l.length≤1048576)(hc:Lies w.heap.size w a l)(hm:∀t∈l,t.s.size≤1048576):
  Calls Tryz.prog 57 #[.slice a l.length cap] w fun e w'=>e= .returned (.bool (tokensOk l))∧Below w.heap.size w w':=by
 have HC:=hid hc
 have HM:=hid hm
 clear hc hm
 obtain⟨n,hln⟩:∃n,n=l.length:=⟨_,rfl⟩
 have HLN:=hid hln
 rw[←hln]
 rw[←hln]at hn
 by_cases hbig:3000<n
 ·have HE:=hid (show tokensOk l=false by unfold tokensOk;rw[decide_eq_false (by omega)];rfl)
  have N:(3000:Int)<(n:Int):=by omega
  clear hln hbig
  go_enter Tryz.func57,Tryz.ntmps57
  go_wp2
  go_ret
  exact⟨by rw[HE.out];rfl,Below.refl _ _⟩
 have HT:=hid (show tokensOk l=okFrom 0 l by unfold tokensOk;rw[decide_eq_true (by omega)];rfl)
 have N:¬(3000:Int)<(n:Int):=by omega
 clear hln hbig
 go_enter Tryz.func57,Tryz.ntmps57
 go_wp2
 go_loopw [3,4] (fun p i wr=>RelOkS w.heap.size w l p i wr) (fun _ i _=>n-(intOf i).toNat)
 case atStart=>exact⟨0,0,by omega,rfl,rfl,Below.refl _ _,(ok_zero l).symm⟩
 case round=>
  obtain⟨I,P,hI,rfl,rfl,hbel,hok⟩:=hrel
  have HB:=hid hbel
  have HO:=hid hok
  rw[←HLN.out]at hI
  clear hbel hok
  by_cases hlt:I<n
  ·have G:I<l.length:=by have:=HLN.out;omega
   have HCO:=hid (okS_cons G P)
   obtain⟨b,o,rfl,hb,hcell⟩:=lies_at HC.out G
   obtain⟨c0,c1,c2⟩:=(hcell I G).keep HB.out hb
   have hts:=HM.out l[I] (List.getElem_mem G)
   obtain⟨t,ht⟩:∃t,t=l[I]:=⟨_,rfl⟩
   rw[←ht]at HCO c0 c1 c2 hts
   have U:(I:Int)<(n:Int):=by omega
   have Q:(0:Int)≤(I:Int):=by omega
   clear ht
   by_cases hmore:I+1<n
   ·have C:I+1<l.length:=by have:=HLN.out;omega
    have O:(I:Int)+1<(n:Int):=by omega
    obtain⟨d0,d1,d2⟩:=(hcell (I+1) C).keep HB.out hb
    have HHD:=hid (head_more C t.k)
    obtain⟨u,hu⟩:∃u,u=l[I+1]:=⟨_,rfl⟩
    rw[←hu]at d0 d1 d2 HHD
    clear hu hcell hmore
    cases hok1:tok.tokOk t.k t.s
    ·skip
     have HE:=hid (show tokensOk l=false by rw[HT.out,←HO.out,HCO.out,hok1];simp)
     go_wp2_with fail
     refine(tok.spec_tok t.k t.a t.s _ hts).mono ?_
     rintro e w2 ⟨he,b2⟩
     rw[hok1]at he
     subst he
     have y:=hid (HB.trans (b2.mono HB.size))
     clear b2
     go_wp2_with (go_at_call 106;refine(operand.spec_ends _ _).mono ?_;rintro e w' ⟨rfl,rfl⟩)
     go_ret
     exact⟨by rw[HE.out];rfl,y.out⟩
    by_cases k7:t.k=7
    ·obtain⟨f7,-⟩:=eqI k7
     obtain⟨f2,-⟩:=neI (show¬t.k=2 by omega)
     have HSL:=hid (show slashOk P t.k=true by unfold slashOk;rw[if_neg (by omega),if_neg (by omega)])
     have g5:=(neI (show¬t.k=5 by omega)).1
     have F:=(neI (show¬t.k=58 by omega)).1
     have D:=(neI (show¬t.k=41 by omega)).1
     by_cases n32:u.k=32
     ·obtain⟨g1,g2⟩:=eqI n32
      have HHH:=hid (show headOk t.k (l.drop (I+1))=true by rw[HHD.out,f7,f2,g2];rfl)
      clear k7 n32
      have HE:=hid (show okS t.k (l.drop (I+1))=okFrom 0 l by rw[←HO.out,HCO.out,hok1,HHH.out,HSL.out];simp)
      go_wp2_with fail
      refine(tok.spec_tok t.k t.a t.s _ hts).mono ?_
      rintro e w2 ⟨he,b2⟩
      rw[hok1]at he
      subst he
      have y:=hid (HB.trans (b2.mono HB.size))
      clear b2
      go_wp2_with (go_at_call 106;refine(operand.spec_ends _ _).mono ?_;rintro e w' ⟨rfl,rfl⟩)
      go_roundw
      case rel=>exact⟨I+1,t.k,by have:=HLN.out;omega,by go_num,rfl,y.out,HE.out⟩
      case measure=>simp[intOf];omega
     ·obtain⟨g1,g2⟩:=neI n32
      have HHH:=hid (show headOk t.k (l.drop (I+1))=false by rw[HHD.out,f7,g2];rfl)
      clear k7 n32
      have HE:=hid (show tokensOk l=false by rw[HT.out,←HO.out,HCO.out,hok1,HHH.out];simp)
      go_wp2_with fail
      refine(tok.spec_tok t.k t.a t.s _ hts).mono ?_
      rintro e w2 ⟨he,b2⟩
      rw[hok1]at he
      subst he
      have y:=hid (HB.trans (b2.mono HB.size))
      clear b2
      go_wp2_with (go_at_call 106;refine(operand.spec_ends _ _).mono ?_;rintro e w' ⟨rfl,rfl⟩)
      go_ret
      exact⟨by rw[HE.out];rfl,y.out⟩
    obtain⟨f7,A⟩:=neI k7
    by_cases k2:t.k=2
    ·obtain⟨f2,-⟩:=eqI k2
     have HSL:=hid (show slashOk P t.k=true by unfold slashOk;rw[if_neg (by omega),if_neg (by omega)])
     have g5:=(neI (show¬t.k=5 by omega)).1
     have F:=(neI (show¬t.k=58 by omega)).1
     have D:=(neI (show¬t.k=41 by omega)).1
     by_cases n1:u.k=1
     ·obtain⟨g1,g2⟩:=eqI n1
      have HHH:=hid (show headOk t.k (l.drop (I+1))=true by rw[HHD.out,f7,f2,g2];rfl)
      clear k7 k2 n1
      have HE:=hid (show okS t.k (l.drop (I+1))=okFrom 0 l by rw[←HO.out,HCO.out,hok1,HHH.out,HSL.out];simp)
      go_wp2_with fail
      refine(tok.spec_tok t.k t.a t.s _ hts).mono ?_
      rintro e w2 ⟨he,b2⟩
      rw[hok1]at he
      subst he
      have y:=hid (HB.trans (b2.mono HB.size))
      clear b2
      go_wp2_with (go_at_call 106;refine(operand.spec_ends _ _).mono ?_;rintro e w' ⟨rfl,rfl⟩)
      go_roundw
      case rel=>exact⟨I+1,t.k,by have:=HLN.out;omega,by go_num,rfl,y.out,HE.out⟩
      case measure=>simp[intOf];omega
     ·obtain⟨g1,g2⟩:=neI n1
      have HHH:=hid (show headOk t.k (l.drop (I+1))=false by rw[HHD.out,f7,f2,g2];rfl)
      clear k7 k2 n1
      have HE:=hid (show tokensOk l=false by rw[HT.out,←HO.out,HCO.out,hok1,HHH.out];simp)
      go_wp2_with fail
      refine(tok.spec_tok t.k t.a t.s _ hts).mono ?_
      rintro e w2 ⟨he,b2⟩
      rw[hok1]at he
      subst he
      have y:=hid (HB.trans (b2.mono HB.size))
      clear b2
      go_wp2_with (go_at_call 106;refine(operand.spec_ends _ _).mono ?_;rintro e w' ⟨rfl,rfl⟩)
      go_ret
      exact⟨by rw[HE.out];rfl,y.out⟩
    obtain⟨f2,-⟩:=neI k2
    have hhd:headOk t.k (l.drop (I+1))=true:=by rw[HHD.out,f7,f2];rfl
    by_cases k5:t.k=5
    ·obtain⟨f5,-⟩:=eqI k5
     have hsl:slashOk P t.k= !operand.ends P:=by unfold slashOk;rw[if_pos k5]
     have F:=(neI (show¬t.k=58 by omega)).1
     have D:=(neI (show¬t.k=41 by omega)).1
     have HSL:=hid hsl
     have HHH:=hid hhd
     clear k5 hsl hhd k7 k2
     cases he:operand.ends P
     ·skip
      have HE:=hid (show okS t.k (l.drop (I+1))=okFrom 0 l by rw[←HO.out,HCO.out,hok1,HHH.out,HSL.out,he];simp)
      go_wp2_with fail
      refine(tok.spec_tok t.k t.a t.s _ hts).mono ?_
      rintro e w2 ⟨he,b2⟩
      rw[hok1]at he
      subst he
      have y:=hid (HB.trans (b2.mono HB.size))
      clear b2
      go_wp2_with (go_at_call 106;refine(operand.spec_ends _ _).mono ?_;rintro e w' ⟨rfl,rfl⟩)
      go_roundw
      case rel=>exact⟨I+1,t.k,by have:=HLN.out;omega,by go_num,rfl,y.out,HE.out⟩
      case measure=>simp[intOf];omega
     ·skip
      have HE:=hid (show tokensOk l=false by rw[HT.out,←HO.out,HCO.out,hok1,HHH.out,HSL.out,he];simp)
      go_wp2_with fail
      refine(tok.spec_tok t.k t.a t.s _ hts).mono ?_
      rintro e w2 ⟨he,b2⟩
      rw[hok1]at he
      subst he
      have y:=hid (HB.trans (b2.mono HB.size))
      clear b2
      go_wp2_with (go_at_call 106;refine(operand.spec_ends _ _).mono ?_;rintro e w' ⟨rfl,rfl⟩)
      go_ret
      exact⟨by rw[HE.out];rfl,y.out⟩
    obtain⟨f5,-⟩:=neI k5
    by_cases k58:t.k=58
    ·obtain⟨J,-⟩:=eqI k58
     have HSL:=hid (show slashOk P t.k=operand.ends P by unfold slashOk;rw[if_neg k5,if_pos (.inl k58)])
     have HHH:=hid hhd
     clear k5 k58 hhd k7 k2
     cases he:operand.ends P
     ·skip
      have HE:=hid (show tokensOk l=false by rw[HT.out,←HO.out,HCO.out,hok1,HHH.out,HSL.out,he];simp)
      go_wp2_with fail
      refine(tok.spec_tok t.k t.a t.s _ hts).mono ?_
      rintro e w2 ⟨he,b2⟩
      rw[hok1]at he
      subst he
      have y:=hid (HB.trans (b2.mono HB.size))
      clear b2
      go_wp2_with (go_at_call 106;refine(operand.spec_ends _ _).mono ?_;rintro e w' ⟨rfl,rfl⟩)
      go_ret
      exact⟨by rw[HE.out];rfl,y.out⟩
     ·skip
      have HE:=hid (show okS t.k (l.drop (I+1))=okFrom 0 l by rw[←HO.out,HCO.out,hok1,HHH.out,HSL.out,he];simp)
      go_wp2_with fail
      refine(tok.spec_tok t.k t.a t.s _ hts).mono ?_
      rintro e w2 ⟨he,b2⟩
      rw[hok1]at he
      subst he
      have y:=hid (HB.trans (b2.mono HB.size))
      clear b2
      go_wp2_with (go_at_call 106;refine(operand.spec_ends _ _).mono ?_;rintro e w' ⟨rfl,rfl⟩)
      go_roundw
      case rel=>exact⟨I+1,t.k,by have:=HLN.out;omega,by go_num,rfl,y.out,HE.out⟩
      case measure=>simp[intOf];omega
    obtain⟨J,-⟩:=neI k58
    by_cases k41:t.k=41
    ·obtain⟨K,-⟩:=eqI k41
     have HSL:=hid (show slashOk P t.k=operand.ends P by unfold slashOk;rw[if_neg k5,if_pos (.inr k41)])
     have HHH:=hid hhd
     clear k5 k58 k41 hhd k7 k2
     cases he:operand.ends P
     ·skip
      have HE:=hid (show tokensOk l=false by rw[HT.out,←HO.out,HCO.out,hok1,HHH.out,HSL.out,he];simp)
      go_wp2_with fail
      refine(tok.spec_tok t.k t.a t.s _ hts).mono ?_
      rintro e w2 ⟨he,b2⟩
      rw[hok1]at he
      subst he
      have y:=hid (HB.trans (b2.mono HB.size))
      clear b2
      go_wp2_with (go_at_call 106;refine(operand.spec_ends _ _).mono ?_;rintro e w' ⟨rfl,rfl⟩)
      go_ret
      exact⟨by rw[HE.out];rfl,y.out⟩
     ·skip
      have HE:=hid (show okS t.k (l.drop (I+1))=okFrom 0 l by rw[←HO.out,HCO.out,hok1,HHH.out,HSL.out,he];simp)
      go_wp2_with fail
      refine(tok.spec_tok t.k t.a t.s _ hts).mono ?_
      rintro e w2 ⟨he,b2⟩
      rw[hok1]at he
      subst he
      have y:=hid (HB.trans (b2.mono HB.size))
      clear b2
      go_wp2_with (go_at_call 106;refine(operand.spec_ends _ _).mono ?_;rintro e w' ⟨rfl,rfl⟩)
      go_roundw
      case rel=>exact⟨I+1,t.k,by have:=HLN.out;omega,by go_num,rfl,y.out,HE.out⟩
      case measure=>simp[intOf];omega
    obtain⟨K,-⟩:=neI k41
    have HSL:=hid (show slashOk P t.k=true by unfold slashOk;rw[if_neg k5,if_neg (fun h=>h.elim k58 k41)])
    have HHH:=hid hhd
    clear k5 k58 k41 hhd k7 k2
    have HE:=hid (show okS t.k (l.drop (I+1))=okFrom 0 l by rw[←HO.out,HCO.out,hok1,HHH.out,HSL.out];simp)
    go_wp2_with fail
    refine(tok.spec_tok t.k t.a t.s _ hts).mono ?_
    rintro e w2 ⟨he,b2⟩
    rw[hok1]at he
    subst he
    have y:=hid (HB.trans (b2.mono HB.size))
    clear b2
    go_wp2_with (go_at_call 106;refine(operand.spec_ends _ _).mono ?_;rintro e w' ⟨rfl,rfl⟩)
    go_roundw
    case rel=>exact⟨I+1,t.k,by have:=HLN.out;omega,by go_num,rfl,y.out,HE.out⟩
    case measure=>simp[intOf];omega
   ·have C:¬I+1<l.length:=by have:=HLN.out;omega
    have O:¬(I:Int)+1<(n:Int):=by omega
    have HHD:=hid (head_none C t.k)
    clear hcell hmore
    cases hok1:tok.tokOk t.k t.s
    ·skip
     have HE:=hid (show tokensOk l=false by rw[HT.out,←HO.out,HCO.out,hok1];simp)
     go_wp2_with fail
     refine(tok.spec_tok t.k t.a t.s _ hts).mono ?_
     rintro e w2 ⟨he,b2⟩
     rw[hok1]at he
     subst he
     have y:=hid (HB.trans (b2.mono HB.size))
     clear b2
     go_wp2_with (go_at_call 106;refine(operand.spec_ends _ _).mono ?_;rintro e w' ⟨rfl,rfl⟩)
     go_ret
     exact⟨by rw[HE.out];rfl,y.out⟩
    by_cases k7:t.k=7
    ·obtain⟨f7,A⟩:=eqI k7
     have HHH:=hid (show headOk t.k (l.drop (I+1))=false by rw[HHD.out,A])
     clear k7
     have HE:=hid (show tokensOk l=false by rw[HT.out,←HO.out,HCO.out,hok1,HHH.out];simp)
     go_wp2_with fail
     refine(tok.spec_tok t.k t.a t.s _ hts).mono ?_
     rintro e w2 ⟨he,b2⟩
     rw[hok1]at he
     subst he
     have y:=hid (HB.trans (b2.mono HB.size))
     clear b2
     go_wp2_with (go_at_call 106;refine(operand.spec_ends _ _).mono ?_;rintro e w' ⟨rfl,rfl⟩)
     go_ret
     exact⟨by rw[HE.out];rfl,y.out⟩
    obtain⟨f7,A⟩:=neI k7
    by_cases k2:t.k=2
    ·obtain⟨f2,-⟩:=eqI k2
     have HSL:=hid (show slashOk P t.k=true by unfold slashOk;rw[if_neg (by omega),if_neg (by omega)])
     have g5:=(neI (show¬t.k=5 by omega)).1
     have F:=(neI (show¬t.k=58 by omega)).1
     have D:=(neI (show¬t.k=41 by omega)).1
     have HHH:=hid (show headOk t.k (l.drop (I+1))=true by rw[HHD.out,A])
     clear k7 k2
     have HE:=hid (show okS t.k (l.drop (I+1))=okFrom 0 l by rw[←HO.out,HCO.out,hok1,HHH.out,HSL.out];simp)
     go_wp2_with fail
     refine(tok.spec_tok t.k t.a t.s _ hts).mono ?_
     rintro e w2 ⟨he,b2⟩
     rw[hok1]at he
     subst he
     have y:=hid (HB.trans (b2.mono HB.size))
     clear b2
     go_wp2_with (go_at_call 106;refine(operand.spec_ends _ _).mono ?_;rintro e w' ⟨rfl,rfl⟩)
     go_roundw
     case rel=>exact⟨I+1,t.k,by have:=HLN.out;omega,by go_num,rfl,y.out,HE.out⟩
     case measure=>simp[intOf];omega
    obtain⟨f2,-⟩:=neI k2
    have hhd:headOk t.k (l.drop (I+1))=true:=by rw[HHD.out,A]
    by_cases k5:t.k=5
    ·obtain⟨f5,-⟩:=eqI k5
     have hsl:slashOk P t.k= !operand.ends P:=by unfold slashOk;rw[if_pos k5]
     have F:=(neI (show¬t.k=58 by omega)).1
     have D:=(neI (show¬t.k=41 by omega)).1
     have HSL:=hid hsl
     have HHH:=hid hhd
     clear k5 hsl hhd k7 k2
     cases he:operand.ends P
     ·skip
      have HE:=hid (show okS t.k (l.drop (I+1))=okFrom 0 l by rw[←HO.out,HCO.out,hok1,HHH.out,HSL.out,he];simp)
      go_wp2_with fail
      refine(tok.spec_tok t.k t.a t.s _ hts).mono ?_
      rintro e w2 ⟨he,b2⟩
      rw[hok1]at he
      subst he
      have y:=hid (HB.trans (b2.mono HB.size))
      clear b2
      go_wp2_with (go_at_call 106;refine(operand.spec_ends _ _).mono ?_;rintro e w' ⟨rfl,rfl⟩)
      go_roundw
      case rel=>exact⟨I+1,t.k,by have:=HLN.out;omega,by go_num,rfl,y.out,HE.out⟩
      case measure=>simp[intOf];omega
     ·skip
      have HE:=hid (show tokensOk l=false by rw[HT.out,←HO.out,HCO.out,hok1,HHH.out,HSL.out,he];simp)
      go_wp2_with fail
      refine(tok.spec_tok t.k t.a t.s _ hts).mono ?_
      rintro e w2 ⟨he,b2⟩
      rw[hok1]at he
      subst he
      have y:=hid (HB.trans (b2.mono HB.size))
      clear b2
      go_wp2_with (go_at_call 106;refine(operand.spec_ends _ _).mono ?_;rintro e w' ⟨rfl,rfl⟩)
      go_ret
      exact⟨by rw[HE.out];rfl,y.out⟩
    obtain⟨f5,-⟩:=neI k5
    by_cases k58:t.k=58
    ·obtain⟨J,-⟩:=eqI k58
     have HSL:=hid (show slashOk P t.k=operand.ends P by unfold slashOk;rw[if_neg k5,if_pos (.inl k58)])
     have HHH:=hid hhd
     clear k5 k58 hhd k7 k2
     cases he:operand.ends P
     ·skip
      have HE:=hid (show tokensOk l=false by rw[HT.out,←HO.out,HCO.out,hok1,HHH.out,HSL.out,he];simp)
      go_wp2_with fail
      refine(tok.spec_tok t.k t.a t.s _ hts).mono ?_
      rintro e w2 ⟨he,b2⟩
      rw[hok1]at he
      subst he
      have y:=hid (HB.trans (b2.mono HB.size))
      clear b2
      go_wp2_with (go_at_call 106;refine(operand.spec_ends _ _).mono ?_;rintro e w' ⟨rfl,rfl⟩)
      go_ret
      exact⟨by rw[HE.out];rfl,y.out⟩
     ·skip
      have HE:=hid (show okS t.k (l.drop (I+1))=okFrom 0 l by rw[←HO.out,HCO.out,hok1,HHH.out,HSL.out,he];simp)
      go_wp2_with fail
      refine(tok.spec_tok t.k t.a t.s _ hts).mono ?_
      rintro e w2 ⟨he,b2⟩
      rw[hok1]at he
      subst he
      have y:=hid (HB.trans (b2.mono HB.size))
      clear b2
      go_wp2_with (go_at_call 106;refine(operand.spec_ends _ _).mono ?_;rintro e w' ⟨rfl,rfl⟩)
      go_roundw
      case rel=>exact⟨I+1,t.k,by have:=HLN.out;omega,by go_num,rfl,y.out,HE.out⟩
      case measure=>simp[intOf];omega
    obtain⟨J,-⟩:=neI k58
    by_cases k41:t.k=41
    ·obtain⟨K,-⟩:=eqI k41
     have HSL:=hid (show slashOk P t.k=operand.ends P by unfold slashOk;rw[if_neg k5,if_pos (.inr k41)])
     have HHH:=hid hhd
     clear k5 k58 k41 hhd k7 k2
     cases he:operand.ends P
     ·skip
      have HE:=hid (show tokensOk l=false by rw[HT.out,←HO.out,HCO.out,hok1,HHH.out,HSL.out,he];simp)
      go_wp2_with fail
      refine(tok.spec_tok t.k t.a t.s _ hts).mono ?_
      rintro e w2 ⟨he,b2⟩
      rw[hok1]at he
      subst he
      have y:=hid (HB.trans (b2.mono HB.size))
      clear b2
      go_wp2_with (go_at_call 106;refine(operand.spec_ends _ _).mono ?_;rintro e w' ⟨rfl,rfl⟩)
      go_ret
      exact⟨by rw[HE.out];rfl,y.out⟩
     ·skip
      have HE:=hid (show okS t.k (l.drop (I+1))=okFrom 0 l by rw[←HO.out,HCO.out,hok1,HHH.out,HSL.out,he];simp)
      go_wp2_with fail
      refine(tok.spec_tok t.k t.a t.s _ hts).mono ?_
      rintro e w2 ⟨he,b2⟩
      rw[hok1]at he
      subst he
      have y:=hid (HB.trans (b2.mono HB.size))
      clear b2
      go_wp2_with (go_at_call 106;refine(operand.spec_ends _ _).mono ?_;rintro e w' ⟨rfl,rfl⟩)
      go_roundw
      case rel=>exact⟨I+1,t.k,by have:=HLN.out;omega,by go_num,rfl,y.out,HE.out⟩
      case measure=>simp[intOf];omega
    obtain⟨K,-⟩:=neI k41
    have HSL:=hid (show slashOk P t.k=true by unfold slashOk;rw[if_neg k5,if_neg (fun h=>h.elim k58 k41)])
    have HHH:=hid hhd
    clear k5 k58 k41 hhd k7 k2
    have HE:=hid (show okS t.k (l.drop (I+1))=okFrom 0 l by rw[←HO.out,HCO.out,hok1,HHH.out,HSL.out];simp)
    go_wp2_with fail
    refine(tok.spec_tok t.k t.a t.s _ hts).mono ?_
    rintro e w2 ⟨he,b2⟩
    rw[hok1]at he
    subst he
    have y:=hid (HB.trans (b2.mono HB.size))
    clear b2
    go_wp2_with (go_at_call 106;refine(operand.spec_ends _ _).mono ?_;rintro e w' ⟨rfl,rfl⟩)
    go_roundw
    case rel=>exact⟨I+1,t.k,by have:=HLN.out;omega,by go_num,rfl,y.out,HE.out⟩
    case measure=>simp[intOf];omega
  ·have HE:=hid (show tokensOk l=true by
    rw[HT.out,←HO.out,List.drop_eq_nil_of_le (by have:=HLN.out;omega)];rfl)
   go_wp2
   go_ret
   exact⟨by rw[HE.out];rfl,HB.out⟩
end Go.Proofs.YtebjmdpkobhcbaaGreatDoor.tksok
