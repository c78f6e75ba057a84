/-

-/
import Derived.Test.YtnoagleifffkcaaGreatDoorZoGBs
import Derived.LaidLaws
import Derived.Lib.LaidTab
import Derived.ChangeArms
import Derived.Below
import Derived.Deep.DeepHandedRow
import Derived.Stop.LaidErr
import Derived.Test.YtnoagleifffkcaaGreatDoorRows
import Derived.WalkKit
import Derived.ProofKit
import Derived.OpenShut
import Derived.ShutString
import Derived.ChangeOld
import Derived.Laws.Rows
import Derived.WalkSpells
import Derived.WalkLawsBesides
import Derived.Test.YtnoagleifffkcaaGreatDoorZoToks
import Derived.Test.YtnoagleifffkcaaGreatDoorCards
import Derived.Test.YtnoagleifffkcaaGreatDoorTie
import Derived.Lib.QuietBelow
namespace Go.Proofs.YtnoagleifffkcaaGreatDoor
open Go.ChangeShapes Go.WideShapes Go.ChangeAt Go.RowKit
def strCells(l:List ByteArray):Array Value:=(l.map Value.string).toArray
def strData{H:Type}(l:List ByteArray):DataW H:= .agg (l.map fun s=> .lit (.string s.data.toList))
theorem cells_of_strs{H:Type}{enc:TypeId×Value→H}{P:Program}{w:World}{base:Nat}{sp:Nat→Bool}{held:Bool}{fuel:Nat}{t e:TypeId}{cs:List Value}{l:List ByteArray}{p:List MemPlace}
  (ht:P.underlying t=some (.array l.length e)) (he:P.underlying e=some .string) (hce:P.cellsOf e=1) (hct:P.cellsOf t=l.length)
  (h:DataW.trod enc P w base sp held fuel t cs=some (strData l,p)):cs=l.map Value.string:=by
 cases fuel with
 |zero=>simp[DataW.trod]at h
 |succ fuel=>
  simp only[DataW.trod,ht,hce,hct,Nat.mul_one]at h
  split at h
  ·rename_i hl
   obtain⟨xs,hm,hx⟩:=Option.map_eq_some_iff.1 h
   have hxs:xs.map (·.1)=l.map fun s=>(DataW.lit (.string s.data.toList):DataW H):=by simpa [strData]using congrArg Prod.fst hx
   apply List.ext_getElem?
   intro i
   by_cases hi:i<l.length
   ·obtain⟨b,hb,hf⟩:=Lib.mapM_at hm i i (by simp[hi])
    obtain⟨s,hc,rfl,_⟩:=DataW.trod_string he hf
    have h0:(List.take 1 (List.drop i cs))[0]? =[Value.string s][0]? :=by rw[hc]
    have h1:cs[i]? =some (.string s):=by simpa [List.getElem?_take,List.getElem?_drop]using h0
    have h2:(xs.map (·.1))[i]? =some (DataW.lit (.string s.data.toList):DataW H):=by simp[hb]
    rw[hxs,List.getElem?_map,List.getElem?_eq_getElem hi]at h2
    simp only[Option.map_some,Option.some.injEq,DataW.lit.injEq,Lit.string.injEq]at h2
    have h3:l[i]=s:=ByteArray.ext (Array.toList_inj.1 h2)
    rw[h1,List.getElem?_map,List.getElem?_eq_getElem hi,h3]
    rfl
   ·rw[List.getElem?_eq_none (by omega),List.getElem?_eq_none (by simp;omega)]
  ·cases h
theorem strs_of_head{P:Program}{W:World}{name:String}{l:List ByteArray}{rest:List (String×DataW Unit)}{g:Nat}{t e:TypeId}
  (hg:P.globalNamed name=some g) (hty:(P.globals[g]?).map (·.type)=some t) (ht:P.underlying t=some (.array l.length e)) (he:P.underlying e=some .string) (hce:P.cellsOf e=1) (hct:P.cellsOf t=l.length)
  (h:laidMet P ((name,strData l)::rest) W):W.var? P name=some (strCells l):=by
 obtain⟨ps,⟨g',t',cs,fuel,p,q,hg',ht',hvar,hd,_,_⟩,_⟩:=h
 obtain rfl:=Option.some.inj (hg.symm.trans hg')
 obtain rfl:=Option.some.inj (hty.symm.trans ht')
 have:=cells_of_strs ht he hce hct hd
 rw[hvar]
 unfold strCells
 rw[←this]
theorem var_stays{P:Program}{w w':World}{name:String}{cs:Array Value}(h:w.var? P name=some cs)(hb:Below w.heap.size w w'):w'.var? P name=some cs:=by
 unfold World.var? at h⊢
 cases hg:P.globalNamed name with
 |none=>rw[hg]at h;cases h
 |some g=>
  rw[hg]at h
  simp only[Option.bind_some]at h⊢
  have hlt:g<w.heap.size:=by
   rcases Nat.lt_or_ge g w.heap.size with h'|h'
   ·exact h'
   ·rw[Array.getElem?_eq_none h']at h;cases h
  rw[hb.block g hlt]
  exact h
theorem str_cell{P:Program}{w:World}{name:String}{l:List ByteArray}{g:Nat}(hg:P.globalNamed name=some g)(h:w.var? P name=some (strCells l))(i:Nat)(hi:i<l.length):
  w.cell? ⟨g,i,none⟩=some (.string (l.getD i ⟨#[]⟩)):=by
 have:=World.var?_cell hg h i
 simpa [strCells,List.getD,hi]using this
theorem trodVars_len{H:Type}{enc:TypeId×Value→H}{P:Program}{w:World}{sp:Nat→Bool}:∀{ns:List String} {gs:List (DataW H)} {ps:List MemPlace},DataW.TrodVars enc P w sp ns gs ps→gs.length=ns.length
 |[],[],_,_=>rfl
 |[],_::_,_,h=>h.elim
 |_::_,[],_,h=>h.elim
 |_::_,_::_,_,⟨_,_,_,_,_,_,_,_,_,_,hs,_⟩=>congrArg Nat.succ (trodVars_len hs)
end Go.Proofs.YtnoagleifffkcaaGreatDoor

namespace Go.Proofs.YtnoagleifffkcaaGreatDoor.spell
open Lib (hid)
open Go.ChangeShapes Go.WideShapes Go.ChangeAt Go.RowKit
open toks (words signs builtins place find isIn isBuiltin)
set_option linter.unusedVariables false
theorem gK:Tryz.prog.globalNamed "loop.example/g01543/impl.keywords"=some 0:=by kernel_rfl
theorem gKType:(Tryz.prog.globals[0]?).map (·.type)=some 133:=by kernel_rfl
theorem cellsK:Tryz.prog.cellsOf 133=17:=by kernel_rfl
theorem gO:Tryz.prog.globalNamed "loop.example/g01543/impl.operators"=some 1:=by kernel_rfl
theorem gOType:(Tryz.prog.globals[1]?).map (·.type)=some 134:=by kernel_rfl
theorem cellsO:Tryz.prog.cellsOf 134=39:=by kernel_rfl
theorem cellsStr:Tryz.prog.cellsOf 9=1:=by kernel_rfl
structure Held(w:World):Prop where
 kw:w.var? Tryz.prog "loop.example/g01543/impl.keywords"=some (Go.Proofs.YtnoagleifffkcaaGreatDoor.strCells words)
 op:w.var? Tryz.prog "loop.example/g01543/impl.operators"=some (Go.Proofs.YtnoagleifffkcaaGreatDoor.strCells signs)
theorem Held.below{w w':World}(h:Held w)(hb:Below w.heap.size w w'):Held w':=⟨var_stays h.kw hb,var_stays h.op hb⟩
theorem held{W:World}{rest:List (String×DataW Unit)}(h:laidMet Tryz.prog (("loop.example/g01543/impl.keywords",Rows.laid_loop_example_g01543_impl_keywords)::("loop.example/g01543/impl.operators",Rows.laid_loop_example_g01543_impl_operators)::rest) W):Held W:=
 ⟨strs_of_head (l:=words) gK gKType Tryz.underlying133 Tryz.underlying9 cellsStr cellsK h,strs_of_head (l:=signs) gO gOType Tryz.underlying134 Tryz.underlying9 cellsStr cellsO h.tail⟩
def spell(n:Int):ByteArray:=
 if n=1 then⟨#[10]⟩else if 10≤n∧n≤26 then words.getD (n-10).toNat ⟨#[]⟩else if 30≤n∧n≤68 then signs.getD (n-30).toNat ⟨#[]⟩else⟨#[]⟩
theorem spell_word(K:Nat)(h:K<17):spell ((K:Int)+10)=words.getD K ⟨#[]⟩:=by
 unfold spell
 rw[if_neg (by omega),if_pos (by omega)]
 congr 1
 omega
theorem spell_sign(K:Nat)(h:K<39):spell ((K:Int)+30)=signs.getD K ⟨#[]⟩:=by
 unfold spell
 rw[if_neg (by omega),if_neg (by omega),if_pos (by omega)]
 congr 1
 omega
theorem spell_none(n:Int)(h1:¬n=1)(h2:¬(10≤n∧n≤26))(h3:¬(30≤n∧n≤68)):spell n=⟨#[]⟩:=by
 unfold spell
 rw[if_neg h1,if_neg h2,if_neg h3]
theorem spec_spell(n:Int)(w:World):Calls Tryz.prog 116 #[.int .i64 n] w fun e w'=>e= .returned (.string (spell n))∧Below w.heap.size w w':=by
 by_cases h1:n=1
 ·subst h1
  go_enter Tryz.func116,Tryz.ntmps116
  go_wp2
  go_ret
  exact⟨rfl,Below.refl _ _⟩
 ·by_cases h2:10≤n∧n≤26
  ·obtain⟨K,rfl⟩:∃K:Nat,n=(K:Int)+10:=⟨(n-10).toNat,by omega⟩
   have hK:K<17:=by omega
   have HS:=hid (spell_word K hK)
   have hr:chars.inR ((K:Int)+10) 10 26=true:=by simp[chars.inR];omega
   clear h2
   go_enter Tryz.func116,Tryz.ntmps116
   go_wp2_with (go_at_call 30;refine(chars.spec_in _ _ _ _).mono ?_;rintro e w' ⟨rfl,rfl⟩)
   refine(toks.words_list _).mono ?_
   rintro e w1 ⟨rfl,b1,hh⟩
   have hcell:w1.cell? ⟨w.heap.size,K,none⟩=some (.string (words.getD K ⟨#[]⟩)):=by
    rw[cell_of_row w1 _ K _ _ _ hh]
    have:K<words.length:=hK
    simp[toks.strCells,this,List.getD]
   obtain⟨x,hx⟩:∃x,x=words.getD K ⟨#[]⟩:=⟨_,rfl⟩
   have HX:=hid hx
   rw[←hx]at hcell
   clear hx hh
   go_wp2
   go_ret
   exact⟨by rw[HS.out,←HX.out];rfl,b1⟩
  ·by_cases h3:30≤n∧n≤68
   ·obtain⟨K,rfl⟩:∃K:Nat,n=(K:Int)+30:=⟨(n-30).toNat,by omega⟩
    have hK:K<39:=by omega
    have HS:=hid (spell_sign K hK)
    have hr:chars.inR ((K:Int)+30) 10 26=false:=by simp[chars.inR];omega
    have j:chars.inR ((K:Int)+30) 30 68=true:=by simp[chars.inR];omega
    clear h2 h3
    go_enter Tryz.func116,Tryz.ntmps116
    go_wp2_with (go_at_call 30;refine(chars.spec_in _ _ _ _).mono ?_;rintro e w' ⟨rfl,rfl⟩)
    refine(toks.signs_list _).mono ?_
    rintro e w1 ⟨rfl,b1,hh⟩
    have hcell:w1.cell? ⟨w.heap.size,K,none⟩=some (.string (signs.getD K ⟨#[]⟩)):=by
     rw[cell_of_row w1 _ K _ _ _ hh]
     have:K<signs.length:=hK
     simp[toks.strCells,this,List.getD]
    obtain⟨x,hx⟩:∃x,x=signs.getD K ⟨#[]⟩:=⟨_,rfl⟩
    have HX:=hid hx
    rw[←hx]at hcell
    clear hx hh
    go_wp2
    go_ret
    exact⟨by rw[HS.out,←HX.out];rfl,b1⟩
   ·have HS:=hid (spell_none n h1 h2 h3)
    have hr:chars.inR n 10 26=false:=by simp[chars.inR];omega
    have j:chars.inR n 30 68=false:=by simp[chars.inR];omega
    clear h2 h3
    go_enter Tryz.func116,Tryz.ntmps116
    go_wp2_with (go_at_call 30;refine(chars.spec_in _ _ _ _).mono ?_;rintro e w' ⟨rfl,rfl⟩)
    go_ret
    exact⟨by rw[HS.out];rfl,Below.refl _ _⟩
theorem impl_spell(n:Int)(w:World)(hh:Held w):Calls Tryz.prog 93 #[.int .i64 n] w fun e w'=>e= .returned (.string (spell n))∧w=w':=by
 have HH:=hid hh
 clear hh
 by_cases h1:n=1
 ·subst h1
  go_enter Tryz.func93,Tryz.ntmps93
  go_wp2
  go_ret
  exact⟨rfl,rfl⟩
 ·by_cases h2:10≤n∧n≤26
  ·obtain⟨K,rfl⟩:∃K:Nat,n=(K:Int)+10:=⟨(n-10).toNat,by omega⟩
   have hK:K<17:=by omega
   have HS:=hid (spell_word K hK)
   have hcell:=str_cell (l:=words) gK HH.kw K hK
   obtain⟨x,hx⟩:∃x,x=words.getD K ⟨#[]⟩:=⟨_,rfl⟩
   have HX:=hid hx
   rw[←hx]at hcell
   obtain⟨G,y⟩:=h2
   clear hx
   go_enter Tryz.func93,Tryz.ntmps93
   go_wp2
   go_ret
   exact⟨by rw[HS.out,←HX.out];rfl,rfl⟩
  ·by_cases h3:30≤n∧n≤68
   ·obtain⟨K,rfl⟩:∃K:Nat,n=(K:Int)+30:=⟨(n-30).toNat,by omega⟩
    have hK:K<39:=by omega
    have HS:=hid (spell_sign K hK)
    have hcell:=str_cell (l:=signs) gO HH.op K hK
    obtain⟨x,hx⟩:∃x,x=signs.getD K ⟨#[]⟩:=⟨_,rfl⟩
    have HX:=hid hx
    rw[←hx]at hcell
    obtain⟨F,j⟩:=h3
    have h4:(10:Int)≤(K:Int)+30:=by omega
    have h5:¬(K:Int)+30≤26:=by omega
    clear hx h2
    go_enter Tryz.func93,Tryz.ntmps93
    go_wp2
    go_ret
    exact⟨by rw[HS.out,←HX.out];rfl,rfl⟩
   ·have HS:=hid (spell_none n h1 h2 h3)
    by_cases ha:10≤n
    ·have hb:¬n≤26:=by omega
     by_cases hc:30≤n
     ·have hd:¬n≤68:=by omega
      clear h2 h3
      go_enter Tryz.func93,Tryz.ntmps93
      go_wp2
      go_ret
      exact⟨by rw[HS.out];rfl,rfl⟩
     ·clear h2 h3
      go_enter Tryz.func93,Tryz.ntmps93
      go_wp2
      go_ret
      exact⟨by rw[HS.out];rfl,rfl⟩
    ·have hc:¬30≤n:=by omega
     clear h2 h3
     go_enter Tryz.func93,Tryz.ntmps93
     go_wp2
     go_ret
     exact⟨by rw[HS.out];rfl,rfl⟩
def keyword(s:ByteArray):Int:=if place words s<words.length then(place words s:Int)+10 else 0
theorem find_bd(l:List ByteArray)(s:ByteArray): -1≤find l s∧find l s≤l.length:=by
 unfold find
 split<;>omega
theorem kw_find(s:ByteArray):(find words s<0→keyword s=0)∧(¬find words s<0→keyword s=10+find words s):=by
 unfold find keyword
 split<;>constructor<;>intro h<;>omega
theorem kw_here{s:ByteArray}{I:Nat}(hI:I<17)(h:place words s=I):keyword s=(I:Int)+10:=by
 unfold keyword
 rw[h,if_pos (show I<words.length from hI)]
theorem kw_end{s:ByteArray}(h:17≤place words s):keyword s=0:=by
 unfold keyword
 rw[if_neg (show¬place words s<words.length by have:words.length=17:=rfl;omega)]
theorem spec_keyword(s:ByteArray)(w:World):Calls Tryz.prog 179 #[.string s] w fun e w'=>e= .returned (.int .i64 (keyword s))∧Below w.heap.size w w':=by
 obtain⟨f,hf⟩:∃f,f=find words s:=⟨_,rfl⟩
 have hb:=find_bd words s
 rw[←hf]at hb
 have hl:words.length=17:=rfl
 rw[hl]at hb
 have hk:=kw_find s
 rw[←hf]at hk
 have HF:=hid hf
 clear hf hl
 by_cases h0:f<0
 ·have HK:=hid (hk.1 h0)
  clear hk
  go_enter Tryz.func179,Tryz.ntmps179
  go_wp2_with fail
  refine(toks.words_list _).mono ?_
  rintro e w1 ⟨rfl,b1,h1⟩
  have H1:=hid h1
  clear h1
  go_wp2_with fail
  refine(toks.find_any words s _ _ H1.out (by decide)).mono ?_
  rintro e w2 ⟨he,rfl⟩
  rw[←HF.out]at he
  subst he
  go_wp2
  go_ret
  exact⟨by rw[HK.out];rfl,b1⟩
 ·have HK:=hid (hk.2 h0)
  clear hk
  go_enter Tryz.func179,Tryz.ntmps179
  go_wp2_with fail
  refine(toks.words_list _).mono ?_
  rintro e w1 ⟨rfl,b1,h1⟩
  have H1:=hid h1
  clear h1
  go_wp2_with fail
  refine(toks.find_any words s _ _ H1.out (by decide)).mono ?_
  rintro e w2 ⟨he,rfl⟩
  rw[←HF.out]at he
  subst he
  go_wp2
  go_ret
  exact⟨by rw[HK.out];rfl,b1⟩
def RelK(s:ByteArray)(k:Value):Prop:=∃I:Nat,I≤17∧k= .int .i64 ((I:Int)+10)∧I≤place words s
def kOf(v:Value):Nat:=(intOf v).toNat
theorem impl_keyword(s:ByteArray)(w:World)(hh:Held w):Calls Tryz.prog 165 #[.string s] w fun e w'=>e= .returned (.int .i64 (keyword s))∧w=w':=by
 have HH:=hid hh
 clear hh
 go_enter Tryz.func165,Tryz.ntmps165
 go_wp2
 go_loop [3] (fun k=>RelK s k) (fun k=>27-(intOf k).toNat)
 case atStart=>exact⟨0,by omega,rfl,by omega⟩
 case round=>
  obtain⟨I,hI,rfl,hp⟩:=hrel
  have HP:=hid hp
  clear hp
  by_cases hlt:I<17
  ·have j:(I:Int)+10≤26:=by omega
   obtain⟨x,hx⟩:∃x,x=spell ((I:Int)+10):=⟨_,rfl⟩
   have hxe:x=words.getD I ⟨#[]⟩:=hx.trans (spell_word I hlt)
   have HX:=hid hx
   clear hx
   by_cases he:x=s
   ·have HE:=hid (kw_here hlt (toks.place_here hlt HP.out (hxe.symm.trans he)))
    have ht:(x.toList==s.toList)=true:=by rw[he];exact beq_self_eq_true _
    clear hxe he
    go_wp2_with (go_at_call 93;refine(impl_spell _ _ HH.out).mono ?_;rw[←HX.out];rintro e w' ⟨rfl,rfl⟩)
    go_ret
    exact⟨by rw[HE.out];rfl,rfl⟩
   ·have HE:=hid (toks.place_next hlt HP.out (fun h=>he (hxe.trans h)))
    have ht:(x.toList==s.toList)=false:=by
     rw[beq_eq_false_iff_ne,ByteArray.toList_eq,ByteArray.toList_eq]
     intro h
     exact he (ByteArray.ext (Array.toList_inj.1 h))
    clear hxe he
    go_wp2_with (go_at_call 93;refine(impl_spell _ _ HH.out).mono ?_;rw[←HX.out];rintro e w' ⟨rfl,rfl⟩)
    go_round
    case rel=>exact⟨I+1,by omega,by go_num,HE.out⟩
    case measure=>simp[intOf];omega
  ·obtain rfl:I=17:=by omega
   have HE:=hid (kw_end HP.out)
   go_wp2
   go_ret
   exact⟨by rw[HE.out];rfl,rfl⟩
def nameOk(s:ByteArray):Bool:=chars.nameShape s&&(keyword s==0&& !isBuiltin s)
theorem spec_name(s:ByteArray)(w:World)(hs:s.size≤1048576):Calls Tryz.prog 114 #[.string s] w fun e w'=>e= .returned (.bool (nameOk s))∧Below w.heap.size w w':=by
 by_cases h1:chars.nameShape s=true
 ·by_cases h2:keyword s=0
  ·have HE:=hid (show nameOk s= !isBuiltin s by simp[nameOk,h1,h2])
   have H2:=hid h2
   have y:(keyword s==0)=true:=by rw[h2];rfl
   clear h2
   go_enter Tryz.func114,Tryz.ntmps114
   go_wp2_with (go_at_call 178;refine(chars.spec_shape s _ hs).mono ?_;rintro e w' ⟨rfl,rfl⟩)
   refine(spec_keyword s _).mono ?_
   rintro e w1 ⟨rfl,b1⟩
   go_wp2_with fail
   refine(toks.spec_builtin s _).mono ?_
   rintro e w2 ⟨rfl,b2⟩
   go_wp2
   go_ret
   exact⟨by rw[HE.out];rfl,b1.trans (b2.mono b1.size)⟩
  ·have HE:=hid (show nameOk s=false by simp[nameOk,h2])
   have y:(keyword s==0)=false:=by rw[beq_eq_false_iff_ne];exact h2
   clear h2
   go_enter Tryz.func114,Tryz.ntmps114
   go_wp2_with (go_at_call 178;refine(chars.spec_shape s _ hs).mono ?_;rintro e w' ⟨rfl,rfl⟩)
   refine(spec_keyword s _).mono ?_
   rintro e w1 ⟨rfl,b1⟩
   go_wp2
   go_ret
   exact⟨by rw[HE.out];rfl,b1⟩
 ·have j:chars.nameShape s=false:=by simpa using h1
  have HE:=hid (show nameOk s=false by simp[nameOk,j])
  clear h1
  go_enter Tryz.func114,Tryz.ntmps114
  go_wp2_with (go_at_call 178;refine(chars.spec_shape s _ hs).mono ?_;rintro e w' ⟨rfl,rfl⟩)
  go_ret
  exact⟨by rw[HE.out];rfl,Below.refl _ _⟩
theorem impl_name(s:ByteArray)(w:World)(hs:s.size≤1048576)(hh:Held w):Calls Tryz.prog 105 #[.string s] w fun e w'=>e= .returned (.bool (nameOk s))∧w=w':=by
 have HH:=hid hh
 clear hh
 by_cases h1:chars.nameShape s=true
 ·by_cases h2:keyword s=0
  ·have HE:=hid (show nameOk s= !isBuiltin s by simp[nameOk,h1,h2])
   have y:(keyword s==0)=true:=by rw[h2];rfl
   clear h2
   go_enter Tryz.func105,Tryz.ntmps105
   go_wp2_with (first|(go_at_call 164;refine(chars.impl_shape s _ hs).mono ?_;rintro e w' ⟨rfl,rfl⟩)|(go_at_call 165;refine(impl_keyword s _ HH.out).mono ?_;rintro e w' ⟨rfl,rfl⟩)|(go_at_call 106;refine(toks.impl_builtin s _).mono ?_;rintro e w' ⟨rfl,rfl⟩))
   go_ret
   exact⟨by rw[HE.out];rfl,rfl⟩
  ·have HE:=hid (show nameOk s=false by simp[nameOk,h2])
   have y:(keyword s==0)=false:=by rw[beq_eq_false_iff_ne];exact h2
   clear h2
   go_enter Tryz.func105,Tryz.ntmps105
   go_wp2_with (first|(go_at_call 164;refine(chars.impl_shape s _ hs).mono ?_;rintro e w' ⟨rfl,rfl⟩)|(go_at_call 165;refine(impl_keyword s _ HH.out).mono ?_;rintro e w' ⟨rfl,rfl⟩))
   go_ret
   exact⟨by rw[HE.out];rfl,rfl⟩
 ·have j:chars.nameShape s=false:=by simpa using h1
  have HE:=hid (show nameOk s=false by simp[nameOk,j])
  clear h1
  go_enter Tryz.func105,Tryz.ntmps105
  go_wp2_with (go_at_call 164;refine(chars.impl_shape s _ hs).mono ?_;rintro e w' ⟨rfl,rfl⟩)
  go_ret
  exact⟨by rw[HE.out];rfl,rfl⟩
end Go.Proofs.YtnoagleifffkcaaGreatDoor.spell

namespace Go.Proofs.YtnoagleifffkcaaGreatDoor
open Go.ChangeShapes Go.WideShapes Go.ChangeAt Go.RowKit
noncomputable def laidWorld (os:Os):World:=
 let w0:=World.holding Tryz.prog os ⟨#[],#[],[]⟩
 {w0 with heap:=(w0.heap.modify 0 fun
   | .cells _ t frozen=> .cells (strCells toks.words) t frozen
   |o=>o).modify 1 fun
   | .cells _ t frozen=> .cells (strCells toks.signs) t frozen
   |o=>o}
end Go.Proofs.YtnoagleifffkcaaGreatDoor
