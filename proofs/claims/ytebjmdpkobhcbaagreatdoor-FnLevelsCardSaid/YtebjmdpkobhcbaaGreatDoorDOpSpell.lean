/- A part of the proof; no condition of its own. -/
import Derived.Test.YtebjmdpkobhcbaaGreatDoorDLevel
import Derived.Test.YtebjmdpkobhcbaaGreatDoorDGSp
namespace Go.Proofs.YtebjmdpkobhcbaaGreatDoor.lv
open Lib (hid)
open Go.ChangeShapes Go.WideShapes Go.ChangeAt Go.RowKit
open spell (Held)
set_option linter.unusedVariables false
def isAsg(op:Int):Bool:=op==54||chars.inR op 38 43
def isInc(op:Int):Bool:=op==51||op==52
def opSpell(op:Int):ByteArray:=if opLevel op≠0∨isAsg op=true∨isInc op=true∨op=61 then spell.spell op else⟨#[]⟩
theorem impl_asg(op:Int)(w:World):Calls Tryz.prog 37 #[.int .i64 op] w fun e w'=>e= .returned (.bool (isAsg op))∧w=w':=by
 go_enter Tryz.func37,Tryz.ntmps37
 go_wp2
 all_goals
  go_ret
  exact⟨congrArg (fun b=>Ending.returned (Value.bool b)) (by first|(simp_all[isAsg,chars.inR];done)|(rw[Bool.eq_iff_iff];simp_all[isAsg,chars.inR];omega)),rfl⟩
theorem impl_inc(op:Int)(w:World):Calls Tryz.prog 38 #[.int .i64 op] w fun e w'=>e= .returned (.bool (isInc op))∧w=w':=by
 go_enter Tryz.func38,Tryz.ntmps38
 go_wp2
 all_goals
  go_ret
  exact⟨congrArg (fun b=>Ending.returned (Value.bool b)) (by simp_all[isInc]),rfl⟩
theorem ne_facts{x c:Int}(h:¬x=c):(x==c)=false∧(x !=c)=true:=by simp[h]
theorem eq_facts{x c:Int}(h:x=c):(x==c)=true∧(x !=c)=false:=by subst h;simp
set_option maxHeartbeats 1600000 in
theorem impl_opSpell(op:Int)(w:World)(hh:Held w):Calls Tryz.prog 13 #[.int .i64 op] w fun e w'=>e= .returned (.string (opSpell op))∧Below w.heap.size w w':=by
 have HH:=hid hh
 clear hh
 obtain⟨L,hL⟩:∃L,opLevel op=L:=⟨_,rfl⟩
 have hr:=lev_range op
 rw[hL]at hr
 have h:opSpell op=if L≠0∨isAsg op=true∨isInc op=true∨op=61 then spell.spell op else⟨#[]⟩:=by unfold opSpell;rw[hL]
 by_cases hz:L=0
 ·subst hz
  have f:opSpell op=if isAsg op=true∨isInc op=true∨op=61 then spell.spell op else⟨#[]⟩:=by rw[h];simp
  clear h
  cases hA:isAsg op
  ·cases hI:isInc op
   ·by_cases h6:op=61
    ·subst h6
     have HE:=hid (f.trans (if_pos (.inr (.inr rfl))))
     clear f hr
     go_enter Tryz.func13,Tryz.ntmps13
     go_wp2_with (first|(go_at_call 12;refine(impl_op _ _).mono ?_;rw[hL];rintro e w1 ⟨rfl,b1⟩)|(go_at_call 37;refine(impl_asg _ _).mono ?_;rw[hA];rintro e w2 ⟨rfl,rfl⟩)|(go_at_call 38;refine(impl_inc _ _).mono ?_;rw[hI];rintro e w3 ⟨rfl,rfl⟩)|(go_at_call 39;refine(spell.impl_spell _ _ (HH.below b1)).mono ?_;rintro e w4 ⟨rfl,rfl⟩))
     go_ret
     exact⟨by rw[HE.out];rfl,b1⟩
    ·obtain⟨q1,q2⟩:=ne_facts h6
     have HE:=hid (f.trans (if_neg (by rw[hA,hI];simp[h6])))
     clear f hr
     go_enter Tryz.func13,Tryz.ntmps13
     go_wp2_with (first|(go_at_call 12;refine(impl_op _ _).mono ?_;rw[hL];rintro e w1 ⟨rfl,b1⟩)|(go_at_call 37;refine(impl_asg _ _).mono ?_;rw[hA];rintro e w2 ⟨rfl,rfl⟩)|(go_at_call 38;refine(impl_inc _ _).mono ?_;rw[hI];rintro e w3 ⟨rfl,rfl⟩)|(go_at_call 39;refine(spell.impl_spell _ _ (HH.below b1)).mono ?_;rintro e w4 ⟨rfl,rfl⟩))
     go_ret
     exact⟨by rw[HE.out];rfl,b1⟩
   ·have HE:=hid (f.trans (if_pos (.inr (.inl hI))))
    clear f hr
    go_enter Tryz.func13,Tryz.ntmps13
    go_wp2_with (first|(go_at_call 12;refine(impl_op _ _).mono ?_;rw[hL];rintro e w1 ⟨rfl,b1⟩)|(go_at_call 37;refine(impl_asg _ _).mono ?_;rw[hA];rintro e w2 ⟨rfl,rfl⟩)|(go_at_call 38;refine(impl_inc _ _).mono ?_;rw[hI];rintro e w3 ⟨rfl,rfl⟩)|(go_at_call 39;refine(spell.impl_spell _ _ (HH.below b1)).mono ?_;rintro e w4 ⟨rfl,rfl⟩))
    go_ret
    exact⟨by rw[HE.out];rfl,b1⟩
  ·have HE:=hid (f.trans (if_pos (.inl hA)))
   clear f hr
   go_enter Tryz.func13,Tryz.ntmps13
   go_wp2_with (first|(go_at_call 12;refine(impl_op _ _).mono ?_;rw[hL];rintro e w1 ⟨rfl,b1⟩)|(go_at_call 37;refine(impl_asg _ _).mono ?_;rw[hA];rintro e w2 ⟨rfl,rfl⟩)|(go_at_call 38;refine(impl_inc _ _).mono ?_;rw[hI];rintro e w3 ⟨rfl,rfl⟩)|(go_at_call 39;refine(spell.impl_spell _ _ (HH.below b1)).mono ?_;rintro e w4 ⟨rfl,rfl⟩))
   go_ret
   exact⟨by rw[HE.out];rfl,b1⟩
 ·obtain⟨z1,z2⟩:=ne_facts hz
  have j:0<L:=by omega
  have HE:=hid (h.trans (if_pos (.inl hz)))
  clear h
  go_enter Tryz.func13,Tryz.ntmps13
  go_wp2_with (first|(go_at_call 12;refine(impl_op _ _).mono ?_;rw[hL];rintro e w1 ⟨rfl,b1⟩)|(go_at_call 37;refine(impl_asg _ _).mono ?_;rw[hA];rintro e w2 ⟨rfl,rfl⟩)|(go_at_call 38;refine(impl_inc _ _).mono ?_;rw[hI];rintro e w3 ⟨rfl,rfl⟩)|(go_at_call 39;refine(spell.impl_spell _ _ (HH.below b1)).mono ?_;rintro e w4 ⟨rfl,rfl⟩))
  go_ret
  exact⟨by rw[HE.out];rfl,b1⟩
end Go.Proofs.YtebjmdpkobhcbaaGreatDoor.lv
