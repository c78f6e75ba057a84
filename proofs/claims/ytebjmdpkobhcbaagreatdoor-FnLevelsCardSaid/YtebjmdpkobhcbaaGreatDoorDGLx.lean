/- A part of the proof; no condition of its own. -/
import Derived.Test.YtebjmdpkobhcbaaGreatDoorDBase
import Derived.Test.YtebjmdpkobhcbaaGreatDoorDChars
import Derived.Test.YtebjmdpkobhcbaaGreatDoorRows
import Derived.WalkKit
import Derived.ProofKit
import Derived.OpenShut
import Derived.ShutString
import Derived.ChangeOld
import Derived.Below
import Derived.WalkSpells
import Derived.WalkLawsBesides
import Derived.Test.YtebjmdpkobhcbaaGreatDoorDGSp
import Derived.Test.YtebjmdpkobhcbaaGreatDoorShelf
import Derived.BigQuiet
import Derived.IntWalk
import Derived.Deep.QuietTactic
import Derived.Lib.Strings
import Derived.Deep.RegionHeld3
import Derived.Lib.IndexLaws
import Derived.Test.YtebjmdpkobhcbaaGreatDoorDTk
import Derived.Test.YtebjmdpkobhcbaaGreatDoorDOperand
import Derived.Test.YtebjmdpkobhcbaaGreatDoorDGOw
import Derived.Laws.OwnMore
namespace Go.Proofs.YtebjmdpkobhcbaaGreatDoor.scan
open Go.RowKit
set_option linter.unusedVariables false
def byteZ(s:ByteArray)(i:Int):Int:=if 0≤i∧i<(s.size:Int)then((s.data.toList.getD i.toNat 0).toNat:Int)else-1
theorem byte_out{s:ByteArray}{i:Int}(h:i<0∨(s.size:Int)≤i):byteZ s i= -1:=by
 unfold byteZ
 rw[if_neg (by omega)]
theorem byte_in{s:ByteArray}{I:Nat}(h:I<s.size):byteZ s I=(s[I].toNat:Int):=by
 unfold byteZ
 rw[if_pos (by omega)]
 rw[show((I:Int)).toNat=I by omega,chars.byte_at s I h]
theorem byte_range{s:ByteArray}{i:Int}(h:byteZ s i≠ -1):0≤i∧i<(s.size:Int):=by
 by_cases h':0≤i∧i<(s.size:Int)
 ·exact h'
 ·exact absurd (byte_out (by omega)) h
def runEnd(p:Int→Bool)(s:ByteArray)(i:Int):Int:=
 if h:p (byteZ s i)=true∧0≤i∧i<(s.size:Int)then runEnd p s (i+1)else i
termination_by ((s.size:Int)-i).toNat
decreasing_by omega
def Cls(p:Int→Bool):Prop:=p (-1)=false
theorem cls_digit:Cls chars.isDigit:=by unfold Cls;decide
theorem cls_word:Cls chars.isWord:=by unfold Cls;decide
theorem cls_letter:Cls chars.isLetter:=by unfold Cls;decide
theorem Cls.range{p:Int→Bool}(hp:Cls p){s:ByteArray}{i:Int}(h:p (byteZ s i)=true):0≤i∧i<(s.size:Int):=by
 refine byte_range fun e=> ?_
 rw[e,hp]at h
 cases h
theorem run_step{p:Int→Bool}(hp:Cls p){s:ByteArray}{i:Int}(h:p (byteZ s i)=true):runEnd p s i=runEnd p s (i+1):=by
 rw[runEnd,dif_pos ⟨h,hp.range h⟩]
theorem run_stop{p:Int→Bool}{s:ByteArray}{i:Int}(h:p (byteZ s i)=false):runEnd p s i=i:=by
 rw[runEnd,dif_neg (by rw[h];simp)]
theorem run_out{p:Int→Bool}{s:ByteArray}{i:Int}(h:i<0∨(s.size:Int)≤i):runEnd p s i=i:=by
 rw[runEnd,dif_neg (by omega)]
theorem run_ge(p:Int→Bool)(s:ByteArray)(i:Int):i≤runEnd p s i:=by
 generalize hn:((s.size:Int)-i).toNat=n
 induction n using Nat.strongRecOn generalizing i with
 |ind n ih=>
  rw[runEnd]
  split
  ·rename_i h
   have:=ih _ (by omega) (i+1) rfl
   omega
  ·omega
theorem run_le(p:Int→Bool)(s:ByteArray)(i:Int)(hi:i≤(s.size:Int)):runEnd p s i≤(s.size:Int):=by
 generalize hn:((s.size:Int)-i).toNat=n
 induction n using Nat.strongRecOn generalizing i with
 |ind n ih=>
  rw[runEnd]
  split
  ·rename_i h
   exact ih _ (by omega) (i+1) (by omega) rfl
  ·exact hi
theorem run_lt{p:Int→Bool}(hp:Cls p){s:ByteArray}{i:Int}(h:p (byteZ s i)=true):i<runEnd p s i:=by
 rw[run_step hp h]
 have:=run_ge p s (i+1)
 omega
abbrev digEnd(s:ByteArray)(i:Int):Int:=runEnd chars.isDigit s i
def expEnd(s:ByteArray)(i:Int):Int:=
 if byteZ s i=101∨byteZ s i=69 then
  if byteZ s (i+1)=43∨byteZ s (i+1)=45 then
   if runEnd chars.isDigit s (i+1+1)>i+1+1 then runEnd chars.isDigit s (i+1+1)else i
  else
   if runEnd chars.isDigit s (i+1)>i+1 then runEnd chars.isDigit s (i+1)else i
 else i
def numEnd(s:ByteArray)(i:Int):Int:=
 if byteZ s (runEnd chars.isDigit s i)=46 then
  if runEnd chars.isDigit s i=i∧runEnd chars.isDigit s (runEnd chars.isDigit s i+1)=runEnd chars.isDigit s i+1 then-1
  else expEnd s (runEnd chars.isDigit s (runEnd chars.isDigit s i+1))
 else if runEnd chars.isDigit s i=i then-1 else expEnd s (runEnd chars.isDigit s i)
theorem num_out{s:ByteArray}{i:Int}(h:i<0∨(s.size:Int)≤i):numEnd s i= -1:=by
 have hr:runEnd chars.isDigit s i=i:=run_out h
 unfold numEnd
 rw[hr,byte_out h]
 simp
def qEnd(s:ByteArray)(g:Int)(i:Nat):Int:=
 if h:i<s.size then
  if(s[i].toNat:Int)=g then(i:Int)+1
  else if(s[i].toNat:Int)=10 then-1
  else if(s[i].toNat:Int)=92 then(if byteZ s (i+1)=10 then-1 else qEnd s g (i+2))
  else qEnd s g (i+1)
 else-1
termination_by s.size-i
decreasing_by all_goals omega
def quoted(s:ByteArray)(i g:Int):Int:=if byteZ s i=g then qEnd s g (i+1).toNat else-1
theorem q_end{s:ByteArray}{g:Int}{i:Nat}(h:¬i<s.size):qEnd s g i= -1:=by
 rw[qEnd,dif_neg h]
theorem q_sign{s:ByteArray}{g:Int}{i:Nat}(h:i<s.size)(h1:(s[i].toNat:Int)=g):qEnd s g i=(i:Int)+1:=by
 rw[qEnd,dif_pos h,if_pos h1]
theorem q_line{s:ByteArray}{g:Int}{i:Nat}(h:i<s.size)(h1:¬(s[i].toNat:Int)=g)(h2:(s[i].toNat:Int)=10):qEnd s g i= -1:=by
 rw[qEnd,dif_pos h,if_neg h1,if_pos h2]
theorem q_esc_line{s:ByteArray}{g:Int}{i:Nat}(h:i<s.size)(h1:¬(s[i].toNat:Int)=g)(h3:(s[i].toNat:Int)=92)(h4:byteZ s (i+1)=10):qEnd s g i= -1:=by
 rw[qEnd,dif_pos h,if_neg h1,if_neg (by omega),if_pos h3,if_pos h4]
theorem q_esc{s:ByteArray}{g:Int}{i:Nat}(h:i<s.size)(h1:¬(s[i].toNat:Int)=g)(h3:(s[i].toNat:Int)=92)(h4:¬byteZ s (i+1)=10):qEnd s g i=qEnd s g (i+2):=by
 rw[qEnd,dif_pos h,if_neg h1,if_neg (by omega),if_pos h3,if_neg h4]
theorem q_next{s:ByteArray}{g:Int}{i:Nat}(h:i<s.size)(h1:¬(s[i].toNat:Int)=g)(h2:¬(s[i].toNat:Int)=10)(h3:¬(s[i].toNat:Int)=92):qEnd s g i=qEnd s g (i+1):=by
 rw[qEnd,dif_pos h,if_neg h1,if_neg h2,if_neg h3]
theorem q_esc_then{s:ByteArray}{g:Int}{i:Nat}(hg:g≠10)(h:i<s.size)(h1:¬(s[i].toNat:Int)=g)(h3:(s[i].toNat:Int)=92)(h4:byteZ s (i+1)=10):qEnd s g i=qEnd s g (i+1):=by
 rw[q_esc_line h h1 h3 h4]
 have hr:=byte_range (s:=s) (i:=(i:Int)+1) (by rw[h4];decide)
 have hlt:i+1<s.size:=by omega
 have e:byteZ s (i+1)=(s[i+1].toNat:Int):=by
  have:=byte_in hlt
  rw[←this]
  congr 1
 rw[q_line hlt (by omega) (by omega)]
theorem quoted_out{s:ByteArray}{i g:Int}(h:¬byteZ s i=g):quoted s i g= -1:=by
 unfold quoted
 rw[if_neg h]
theorem quoted_in{s:ByteArray}{I:Nat}{g:Int}(h:byteZ s I=g):quoted s I g=qEnd s g (I+1):=by
 unfold quoted
 rw[if_pos h,show((I:Int)+1).toNat=I+1 by omega]
def strEnd(s:ByteArray)(i:Int):Int:=quoted s i 34
def ereEnd(s:ByteArray)(i:Int):Int:=if quoted s i 47=i+2 then-1 else quoted s i 47
def nameEnd(s:ByteArray)(i:Int):Int:=if chars.isLetter (byteZ s i)=true then runEnd chars.isWord s i else-1
theorem word_of_letter{n:Int}(h:chars.isLetter n=true):chars.isWord n=true:=by
 unfold chars.isWord;rw[h];rfl
end Go.Proofs.YtebjmdpkobhcbaaGreatDoor.scan

namespace Go.Proofs.YtebjmdpkobhcbaaGreatDoor.scan
open Lib (hid)
open Go.ChangeShapes Go.WideShapes Go.ChangeAt Go.RowKit
set_option linter.unusedVariables false
theorem impl_byte(s:ByteArray)(i:Int)(w:World)(hs:s.size≤1048576):Calls Tryz.prog 124 #[.string s,.int .i64 i] w fun e w'=>e= .returned (.int .i64 (byteZ s i))∧w=w':=by
 by_cases h0:i<0
 ·have HE:=hid (byte_out (s:=s) (i:=i) (by omega))
  go_enter Tryz.func124,Tryz.ntmps124
  go_wp2
  go_ret
  exact⟨by rw[HE.out];rfl,rfl⟩
 ·obtain⟨I,rfl⟩:∃I:Nat,i=I:=⟨i.toNat,by omega⟩
  by_cases h1:I<s.size
  ·have HE:=hid (byte_in h1)
   have hc:=s[I].toNat_lt
   clear h0
   go_enter Tryz.func124,Tryz.ntmps124
   go_wp2
   go_ret
   exact⟨by rw[HE.out];rfl,rfl⟩
  ·have HE:=hid (byte_out (s:=s) (i:=I) (by omega))
   have h2:s.size≤I:=by omega
   clear h0
   go_enter Tryz.func124,Tryz.ntmps124
   go_wp2
   go_ret
   exact⟨by rw[HE.out];rfl,rfl⟩
theorem spec_byte(s:ByteArray)(i:Int)(w:World)(hs:s.size≤1048576):Calls Tryz.prog 121 #[.string s,.int .i64 i] w fun e w'=>e= .returned (.int .i64 (byteZ s i))∧w=w':=by
 by_cases h0:i<0
 ·have HE:=hid (byte_out (s:=s) (i:=i) (by omega))
  go_enter Tryz.func121,Tryz.ntmps121
  go_wp2
  go_ret
  exact⟨by rw[HE.out];rfl,rfl⟩
 ·obtain⟨I,rfl⟩:∃I:Nat,i=I:=⟨i.toNat,by omega⟩
  by_cases h1:I<s.size
  ·have HE:=hid (byte_in h1)
   have hc:=s[I].toNat_lt
   clear h0
   go_enter Tryz.func121,Tryz.ntmps121
   go_wp2
   go_ret
   exact⟨by rw[HE.out];rfl,rfl⟩
  ·have HE:=hid (byte_out (s:=s) (i:=I) (by omega))
   have h2:s.size≤I:=by omega
   clear h0
   go_enter Tryz.func121,Tryz.ntmps121
   go_wp2
   go_ret
   exact⟨by rw[HE.out];rfl,rfl⟩
def RelRun(p:Int→Bool)(s:ByteArray)(i:Int)(v:Value):Prop:=∃J:Int,v= .int .i64 J∧runEnd p s J=runEnd p s i
theorem impl_digits(s:ByteArray)(i:Int)(w:World)(hs:s.size≤1048576):Calls Tryz.prog 192 #[.string s,.int .i64 i] w fun e w'=>e= .returned (.int .i64 (runEnd chars.isDigit s i))∧w=w':=by
 go_enter Tryz.func192,Tryz.ntmps192
 go_wp2
 go_loop [1] (fun j=>RelRun chars.isDigit s i j) (fun j=>((s.size:Int)-intOf j).toNat)
 case atStart=>exact⟨i,rfl,rfl⟩
 case round=>
  obtain⟨J,rfl,hJ⟩:=hrel
  have HJ:=hid hJ
  clear hJ
  by_cases hd:chars.isDigit (byteZ s J)=true
  ·have hr:=cls_digit.range hd
   obtain⟨f,h⟩:=hr
   have HS:=hid ((run_step cls_digit hd).symm.trans HJ.out)
   go_wp2_with (first|(go_at_call 124;refine(impl_byte s _ _ hs).mono ?_;rintro e w' ⟨rfl,rfl⟩)|(go_at_call 127;refine(chars.impl_digit _ _).mono ?_;rintro e w' ⟨rfl,rfl⟩))
   go_round
   case rel=>exact⟨J+1,rfl,HS.out⟩
   case measure=>simp[intOf];omega
  ·have hd':chars.isDigit (byteZ s J)=false:=by simpa using hd
   have HS:=hid ((run_stop hd').symm.trans HJ.out)
   clear hd
   go_wp2_with (first|(go_at_call 124;refine(impl_byte s _ _ hs).mono ?_;rintro e w' ⟨rfl,rfl⟩)|(go_at_call 127;refine(chars.impl_digit _ _).mono ?_;rintro e w' ⟨rfl,rfl⟩))
   go_ret
   exact⟨by rw[←HS.out];rfl,rfl⟩
theorem spec_digits(s:ByteArray)(i:Int)(w:World)(hs:s.size≤1048576):Calls Tryz.prog 246 #[.string s,.int .i64 i] w fun e w'=>e= .returned (.int .i64 (runEnd chars.isDigit s i))∧w=w':=by
 go_enter Tryz.func246,Tryz.ntmps246
 go_wp2
 go_loop [1] (fun j=>RelRun chars.isDigit s i j) (fun j=>((s.size:Int)-intOf j).toNat)
 case atStart=>exact⟨i,rfl,rfl⟩
 case round=>
  obtain⟨J,rfl,hJ⟩:=hrel
  have HJ:=hid hJ
  clear hJ
  by_cases hd:chars.isDigit (byteZ s J)=true
  ·have hr:=cls_digit.range hd
   obtain⟨f,h⟩:=hr
   have HS:=hid ((run_step cls_digit hd).symm.trans HJ.out)
   go_wp2_with (first|(go_at_call 121;refine(spec_byte s _ _ hs).mono ?_;rintro e w' ⟨rfl,rfl⟩)|(go_at_call 184;refine(chars.spec_digit _ _).mono ?_;rintro e w' ⟨rfl,rfl⟩))
   go_round
   case rel=>exact⟨J+1,rfl,HS.out⟩
   case measure=>simp[intOf];omega
  ·have hd':chars.isDigit (byteZ s J)=false:=by simpa using hd
   have HS:=hid ((run_stop hd').symm.trans HJ.out)
   clear hd
   go_wp2_with (first|(go_at_call 121;refine(spec_byte s _ _ hs).mono ?_;rintro e w' ⟨rfl,rfl⟩)|(go_at_call 184;refine(chars.spec_digit _ _).mono ?_;rintro e w' ⟨rfl,rfl⟩))
   go_ret
   exact⟨by rw[←HS.out];rfl,rfl⟩
theorem yes_facts{x c d:Int}(hcd:c≠d)(h:x=c∨x=d):((x==c)=true∧(x !=c)=false∧(x==d)=false∧(x !=d)=true)∨((x==c)=false∧(x !=c)=true∧(x==d)=true∧(x !=d)=false):=by
 rcases h with rfl|rfl
 ·exact .inl ⟨by simp,by simp,by simpa using hcd,by simpa using hcd⟩
 ·exact .inr ⟨by simpa using Ne.symm hcd,by simpa using Ne.symm hcd,by simp,by simp⟩
theorem no_facts{x c d:Int}(h:¬(x=c∨x=d)):(x==c)=false∧(x !=c)=true∧(x==d)=false∧(x !=d)=true:=by
 rw[not_or]at h
 simp[h.1,h.2]
theorem eq_facts{x c:Int}(h:x=c):(x==c)=true∧(x !=c)=false:=by subst h;simp
theorem ne_facts{x c:Int}(h:¬x=c):(x==c)=false∧(x !=c)=true:=by simp[h]
theorem impl_exp(s:ByteArray)(I:Nat)(w:World)(hs:s.size≤1048576)(hI:I≤s.size):Calls Tryz.prog 193 #[.string s,.int .i64 (I:Int)] w fun e w'=>e= .returned (.int .i64 (expEnd s I))∧w=w':=by
 by_cases h1:byteZ s I=101∨byteZ s I=69
 ·have hlt:(I:Int)<(s.size:Int):=(byte_range (s:=s) (i:=I) (by omega)).2
  have hy:=yes_facts (by decide) h1
  by_cases h2:byteZ s (I+1)=43∨byteZ s (I+1)=45
  ·have hz:=yes_facts (by decide) h2
   have h:(I:Int)+1<(s.size:Int):=(byte_range (s:=s) (i:=I+1) (by omega)).2
   by_cases h3:runEnd chars.isDigit s (I+1+1)>I+1+1
   ·have HE:=hid (show expEnd s I=runEnd chars.isDigit s (I+1+1) by unfold expEnd;rw[if_pos h1,if_pos h2,if_pos h3])
    have f:(I:Int)+1+1<runEnd chars.isDigit s (I+1+1):=h3
    clear h1 h2 h3
    rcases hy with ⟨a1,a2,a3,a4⟩|⟨a1,a2,a3,a4⟩<;>rcases hz with ⟨c1,c2,c3,c4⟩|⟨c1,c2,c3,c4⟩
    all_goals
     go_enter Tryz.func193,Tryz.ntmps193
     go_wp2_with (first|(go_at_call 124;refine(impl_byte s _ _ hs).mono ?_;rintro e w' ⟨rfl,rfl⟩)|(go_at_call 192;refine(impl_digits s _ _ hs).mono ?_;rintro e w' ⟨rfl,rfl⟩))
     go_ret
     exact⟨by rw[HE.out];rfl,rfl⟩
   ·have HE:=hid (show expEnd s I=I by unfold expEnd;rw[if_pos h1,if_pos h2,if_neg h3])
    have f:runEnd chars.isDigit s (I+1+1)≤(I:Int)+1+1:=by omega
    clear h1 h2 h3
    rcases hy with ⟨a1,a2,a3,a4⟩|⟨a1,a2,a3,a4⟩<;>rcases hz with ⟨c1,c2,c3,c4⟩|⟨c1,c2,c3,c4⟩
    all_goals
     go_enter Tryz.func193,Tryz.ntmps193
     go_wp2_with (first|(go_at_call 124;refine(impl_byte s _ _ hs).mono ?_;rintro e w' ⟨rfl,rfl⟩)|(go_at_call 192;refine(impl_digits s _ _ hs).mono ?_;rintro e w' ⟨rfl,rfl⟩))
     go_ret
     exact⟨by rw[HE.out];rfl,rfl⟩
  ·obtain⟨c1,c2,c3,c4⟩:=no_facts h2
   by_cases h3:runEnd chars.isDigit s (I+1)>I+1
   ·have HE:=hid (show expEnd s I=runEnd chars.isDigit s (I+1) by unfold expEnd;rw[if_pos h1,if_neg h2,if_pos h3])
    have f:(I:Int)+1<runEnd chars.isDigit s (I+1):=h3
    clear h1 h2 h3
    rcases hy with ⟨a1,a2,a3,a4⟩|⟨a1,a2,a3,a4⟩
    all_goals
     go_enter Tryz.func193,Tryz.ntmps193
     go_wp2_with (first|(go_at_call 124;refine(impl_byte s _ _ hs).mono ?_;rintro e w' ⟨rfl,rfl⟩)|(go_at_call 192;refine(impl_digits s _ _ hs).mono ?_;rintro e w' ⟨rfl,rfl⟩))
     go_ret
     exact⟨by rw[HE.out];rfl,rfl⟩
   ·have HE:=hid (show expEnd s I=I by unfold expEnd;rw[if_pos h1,if_neg h2,if_neg h3])
    have f:runEnd chars.isDigit s (I+1)≤(I:Int)+1:=by omega
    clear h1 h2 h3
    rcases hy with ⟨a1,a2,a3,a4⟩|⟨a1,a2,a3,a4⟩
    all_goals
     go_enter Tryz.func193,Tryz.ntmps193
     go_wp2_with (first|(go_at_call 124;refine(impl_byte s _ _ hs).mono ?_;rintro e w' ⟨rfl,rfl⟩)|(go_at_call 192;refine(impl_digits s _ _ hs).mono ?_;rintro e w' ⟨rfl,rfl⟩))
     go_ret
     exact⟨by rw[HE.out];rfl,rfl⟩
 ·have HE:=hid (show expEnd s I=I by unfold expEnd;rw[if_neg h1])
  obtain⟨a1,a2,a3,a4⟩:=no_facts h1
  clear h1
  go_enter Tryz.func193,Tryz.ntmps193
  go_wp2_with (go_at_call 124;refine(impl_byte s _ _ hs).mono ?_;rintro e w' ⟨rfl,rfl⟩)
  go_ret
  exact⟨by rw[HE.out];rfl,rfl⟩
theorem run_nat(s:ByteArray)(A:Nat)(h:A≤s.size):∃E:Nat,runEnd chars.isDigit s A=(E:Int)∧A≤E∧E≤s.size:=by
 have h1:=run_ge chars.isDigit s A
 have h2:=run_le chars.isDigit s A (by omega)
 exact⟨(runEnd chars.isDigit s A).toNat,by omega,by omega,by omega⟩
theorem impl_num(s:ByteArray)(i:Int)(w:World)(hs:s.size≤1048576):Calls Tryz.prog 128 #[.string s,.int .i64 i] w fun e w'=>e= .returned (.int .i64 (numEnd s i))∧w=w':=by
 by_cases h0:i<0∨(s.size:Int)≤i
 ·have HE:=hid (num_out h0)
  have HR:=hid (run_out (p:=chars.isDigit) h0)
  have HB:=hid (byte_out h0)
  clear h0
  go_enter Tryz.func128,Tryz.ntmps128
  go_wp2_with fail
  refine(impl_digits s _ _ hs).mono ?_
  rintro e w' ⟨he,rfl⟩
  rw[HR.out]at he
  subst he
  go_wp2_with fail
  refine(impl_byte s _ _ hs).mono ?_
  rintro e w' ⟨he,rfl⟩
  rw[HB.out]at he
  subst he
  go_wp2
  go_ret
  exact⟨by rw[HE.out];rfl,rfl⟩
 ·obtain⟨A,rfl⟩:∃A:Nat,i=A:=⟨i.toNat,by omega⟩
  have hA:A<s.size:=by omega
  clear h0
  obtain⟨E,hE,hAE,hEs⟩:=run_nat s A (by omega)
  by_cases hd:byteZ s E=46
  ·have hlt:E<s.size:=by have:=(byte_range (s:=s) (i:=E) (by omega)).2;omega
   obtain⟨K,hK,hEK,hKs⟩:=run_nat s (E+1) (by omega)
   have hK':runEnd chars.isDigit s ((E:Int)+1)=K:=by rw[←hK];congr 1
   obtain⟨d1,d2⟩:=eq_facts hd
   by_cases hz:E=A∧K=E+1
   ·have HE:=hid (show numEnd s A= -1 by unfold numEnd;rw[hE,if_pos hd,if_pos (by rw[hK'];omega)])
    have z1:((E:Int)-(A:Int)+((K:Int)-((E:Int)+1))==0)=true:=by rw[beq_iff_eq];omega
    have H1:=hid hE
    have H2:=hid hK'
    clear hE hd hK hK' hz
    go_enter Tryz.func128,Tryz.ntmps128
    go_wp2_with fail
    refine(impl_digits s _ _ hs).mono ?_
    rintro e w' ⟨he,rfl⟩
    rw[H1.out]at he
    subst he
    go_wp2_with fail
    refine(impl_byte s _ _ hs).mono ?_
    rintro e w' ⟨rfl,rfl⟩
    go_wp2_with fail
    refine(impl_digits s _ _ hs).mono ?_
    rintro e w' ⟨he,rfl⟩
    rw[H2.out]at he
    subst he
    go_wp2
    go_ret
    exact⟨by rw[HE.out];rfl,rfl⟩
   ·have HE:=hid (show numEnd s A=expEnd s K by unfold numEnd;rw[hE,if_pos hd,if_neg (by rw[hK'];omega),hK'])
    have z1:((E:Int)-(A:Int)+((K:Int)-((E:Int)+1))==0)=false:=by rw[beq_eq_false_iff_ne];omega
    have H1:=hid hE
    have H2:=hid hK'
    clear hE hd hK hK' hz
    go_enter Tryz.func128,Tryz.ntmps128
    go_wp2_with fail
    refine(impl_digits s _ _ hs).mono ?_
    rintro e w' ⟨he,rfl⟩
    rw[H1.out]at he
    subst he
    go_wp2_with fail
    refine(impl_byte s _ _ hs).mono ?_
    rintro e w' ⟨rfl,rfl⟩
    go_wp2_with fail
    refine(impl_digits s _ _ hs).mono ?_
    rintro e w' ⟨he,rfl⟩
    rw[H2.out]at he
    subst he
    go_wp2_with fail
    refine(impl_exp s _ _ hs hKs).mono ?_
    rintro e w' ⟨rfl,rfl⟩
    go_wp2
    go_ret
    exact⟨by rw[HE.out];rfl,rfl⟩
  ·obtain⟨d1,d2⟩:=ne_facts hd
   by_cases hz:E=A
   ·have HE:=hid (show numEnd s A= -1 by unfold numEnd;rw[hE,if_neg hd,if_pos (by omega)])
    have z1:((E:Int)-(A:Int)==0)=true:=by rw[beq_iff_eq];omega
    have H1:=hid hE
    clear hE hd hz
    go_enter Tryz.func128,Tryz.ntmps128
    go_wp2_with fail
    refine(impl_digits s _ _ hs).mono ?_
    rintro e w' ⟨he,rfl⟩
    rw[H1.out]at he
    subst he
    go_wp2_with fail
    refine(impl_byte s _ _ hs).mono ?_
    rintro e w' ⟨rfl,rfl⟩
    go_wp2
    go_ret
    exact⟨by rw[HE.out];rfl,rfl⟩
   ·have HE:=hid (show numEnd s A=expEnd s E by unfold numEnd;rw[hE,if_neg hd,if_neg (by omega)])
    have z1:((E:Int)-(A:Int)==0)=false:=by rw[beq_eq_false_iff_ne];omega
    have H1:=hid hE
    clear hE hd hz
    go_enter Tryz.func128,Tryz.ntmps128
    go_wp2_with fail
    refine(impl_digits s _ _ hs).mono ?_
    rintro e w' ⟨he,rfl⟩
    rw[H1.out]at he
    subst he
    go_wp2_with fail
    refine(impl_byte s _ _ hs).mono ?_
    rintro e w' ⟨rfl,rfl⟩
    go_wp2_with fail
    refine(impl_exp s _ _ hs hEs).mono ?_
    rintro e w' ⟨rfl,rfl⟩
    go_wp2
    go_ret
    exact⟨by rw[HE.out];rfl,rfl⟩
set_option maxHeartbeats 4000000 in
theorem spec_num(s:ByteArray)(i:Int)(w:World)(hs:s.size≤1048576):Calls Tryz.prog 166 #[.string s,.int .i64 i] w fun e w'=>e= .returned (.int .i64 (numEnd s i))∧w=w':=by
 by_cases h00:i<0
 ·have HE:=hid (num_out (s:=s) (.inl h00))
  go_enter Tryz.func166,Tryz.ntmps166
  go_wp2
  go_ret
  exact⟨by rw[HE.out];rfl,rfl⟩
 by_cases h0:(s.size:Int)≤i
 ·have HE:=hid (num_out (.inr h0))
  have HR:=hid (run_out (p:=chars.isDigit) (.inr h0))
  have HB:=hid (byte_out (.inr h0))
  clear h0
  go_enter Tryz.func166,Tryz.ntmps166
  go_wp2_with fail
  refine(spec_digits s _ _ hs).mono ?_
  rintro e w' ⟨he,rfl⟩
  rw[HR.out]at he
  subst he
  go_wp2_with fail
  refine(spec_byte s _ _ hs).mono ?_
  rintro e w' ⟨he,rfl⟩
  rw[HB.out]at he
  subst he
  go_wp2
  go_ret
  exact⟨by rw[HE.out];rfl,rfl⟩
 obtain⟨A,rfl⟩:∃A:Nat,i=A:=⟨i.toNat,by omega⟩
 have hA:A<s.size:=by omega
 clear h0 h00
 obtain⟨E,hE,hAE,hEs⟩:=run_nat s A (by omega)
 have H1:=hid hE
 by_cases hd:byteZ s E=46
 ·have hlt:E<s.size:=by have:=(byte_range (s:=s) (i:=E) (by omega)).2;omega
  obtain⟨K,hK,hEK,hKs⟩:=run_nat s (E+1) (by omega)
  have hK':runEnd chars.isDigit s ((E:Int)+1)=K:=by rw[←hK];congr 1
  have H2:=hid hK'
  obtain⟨d1,d2⟩:=eq_facts hd
  by_cases hz:E=A∧K=E+1
  ·have HE:=hid (show numEnd s A= -1 by unfold numEnd;rw[hE,if_pos hd,if_pos (by rw[hK'];omega)])
   have z1:((E:Int)==(A:Int))=true:=by rw[beq_iff_eq];omega
   have z2:((K:Int)==(E:Int)+1)=true:=by rw[beq_iff_eq];omega
   clear hE hd hK hK' hz
   go_enter Tryz.func166,Tryz.ntmps166
   go_wp2_with fail
   refine(spec_digits s _ _ hs).mono ?_
   rintro e w' ⟨he,rfl⟩
   rw[H1.out]at he
   subst he
   go_wp2_with fail
   refine(spec_byte s _ _ hs).mono ?_
   rintro e w' ⟨rfl,rfl⟩
   go_wp2_with fail
   refine(spec_digits s _ _ hs).mono ?_
   rintro e w' ⟨he,rfl⟩
   rw[H2.out]at he
   subst he
   go_wp2
   go_ret
   exact⟨by rw[HE.out];rfl,rfl⟩
  ·have HE:=hid (show numEnd s A=expEnd s K by unfold numEnd;rw[hE,if_pos hd,if_neg (by rw[hK'];omega),hK'])
   have z3:((K:Int)==(A:Int))=false:=by rw[beq_eq_false_iff_ne];omega
   by_cases hz1:E=A
   ·have z1:((E:Int)==(A:Int))=true:=by rw[beq_iff_eq];omega
    have z2:((K:Int)==(E:Int)+1)=false:=by rw[beq_eq_false_iff_ne];omega
    clear hE hd hK hK' hz hz1
    go_enter Tryz.func166,Tryz.ntmps166
    go_wp2_with fail
    refine(spec_digits s _ _ hs).mono ?_
    rintro e w' ⟨he,rfl⟩
    rw[H1.out]at he
    subst he
    go_wp2_with fail
    refine(spec_byte s _ _ hs).mono ?_
    rintro e w' ⟨rfl,rfl⟩
    go_wp2_with fail
    refine(spec_digits s _ _ hs).mono ?_
    rintro e w' ⟨he,rfl⟩
    rw[H2.out]at he
    subst he
    go_wp2_with fail
    by_cases h1:byteZ s K=101∨byteZ s K=69
    ·have hltF:(K:Int)<(s.size:Int):=(byte_range (s:=s) (i:=K) (by omega)).2
     have hy:=yes_facts (by decide) h1
     by_cases h2:byteZ s (K+1)=43∨byteZ s (K+1)=45
     ·have hz:=yes_facts (by decide) h2
      have h:(K:Int)+1<(s.size:Int):=(byte_range (s:=s) (i:=K+1) (by omega)).2
      by_cases h3:runEnd chars.isDigit s (K+1+1)>K+1+1
      ·have HX:=hid (show numEnd s A=runEnd chars.isDigit s (K+1+1) by rw[HE.out];unfold expEnd;rw[if_pos h1,if_pos h2,if_pos h3])
       have f:(K:Int)+1+1<runEnd chars.isDigit s (K+1+1):=h3
       clear h1 h2 h3
       rcases hy with ⟨a1,a2,a3,a4⟩|⟨a1,a2,a3,a4⟩<;>rcases hz with ⟨c1,c2,c3,c4⟩|⟨c1,c2,c3,c4⟩
       all_goals
        go_wp2_with (first|(go_at_call 121;refine(spec_byte s _ _ hs).mono ?_;rintro e w' ⟨rfl,rfl⟩)|(go_at_call 246;refine(spec_digits s _ _ hs).mono ?_;rintro e w' ⟨rfl,rfl⟩))
        go_ret
        exact⟨by rw[HX.out];rfl,rfl⟩
      ·have HX:=hid (show numEnd s A=K by rw[HE.out];unfold expEnd;rw[if_pos h1,if_pos h2,if_neg h3])
       have f:runEnd chars.isDigit s (K+1+1)≤(K:Int)+1+1:=by omega
       clear h1 h2 h3
       rcases hy with ⟨a1,a2,a3,a4⟩|⟨a1,a2,a3,a4⟩<;>rcases hz with ⟨c1,c2,c3,c4⟩|⟨c1,c2,c3,c4⟩
       all_goals
        go_wp2_with (first|(go_at_call 121;refine(spec_byte s _ _ hs).mono ?_;rintro e w' ⟨rfl,rfl⟩)|(go_at_call 246;refine(spec_digits s _ _ hs).mono ?_;rintro e w' ⟨rfl,rfl⟩))
        go_ret
        exact⟨by rw[HX.out];rfl,rfl⟩
     ·obtain⟨c1,c2,c3,c4⟩:=no_facts h2
      by_cases h3:runEnd chars.isDigit s (K+1)>K+1
      ·have HX:=hid (show numEnd s A=runEnd chars.isDigit s (K+1) by rw[HE.out];unfold expEnd;rw[if_pos h1,if_neg h2,if_pos h3])
       have f:(K:Int)+1<runEnd chars.isDigit s (K+1):=h3
       clear h1 h2 h3
       rcases hy with ⟨a1,a2,a3,a4⟩|⟨a1,a2,a3,a4⟩
       all_goals
        go_wp2_with (first|(go_at_call 121;refine(spec_byte s _ _ hs).mono ?_;rintro e w' ⟨rfl,rfl⟩)|(go_at_call 246;refine(spec_digits s _ _ hs).mono ?_;rintro e w' ⟨rfl,rfl⟩))
        go_ret
        exact⟨by rw[HX.out];rfl,rfl⟩
      ·have HX:=hid (show numEnd s A=K by rw[HE.out];unfold expEnd;rw[if_pos h1,if_neg h2,if_neg h3])
       have f:runEnd chars.isDigit s (K+1)≤(K:Int)+1:=by omega
       clear h1 h2 h3
       rcases hy with ⟨a1,a2,a3,a4⟩|⟨a1,a2,a3,a4⟩
       all_goals
        go_wp2_with (first|(go_at_call 121;refine(spec_byte s _ _ hs).mono ?_;rintro e w' ⟨rfl,rfl⟩)|(go_at_call 246;refine(spec_digits s _ _ hs).mono ?_;rintro e w' ⟨rfl,rfl⟩))
        go_ret
        exact⟨by rw[HX.out];rfl,rfl⟩
    ·have HX:=hid (show numEnd s A=K by rw[HE.out];unfold expEnd;rw[if_neg h1])
     obtain⟨a1,a2,a3,a4⟩:=no_facts h1
     clear h1
     go_wp2_with (first|(go_at_call 121;refine(spec_byte s _ _ hs).mono ?_;rintro e w' ⟨rfl,rfl⟩)|(go_at_call 246;refine(spec_digits s _ _ hs).mono ?_;rintro e w' ⟨rfl,rfl⟩))
     go_ret
     exact⟨by rw[HX.out];rfl,rfl⟩
   ·have z1:((E:Int)==(A:Int))=false:=by rw[beq_eq_false_iff_ne];omega
    clear hE hd hK hK' hz hz1
    go_enter Tryz.func166,Tryz.ntmps166
    go_wp2_with fail
    refine(spec_digits s _ _ hs).mono ?_
    rintro e w' ⟨he,rfl⟩
    rw[H1.out]at he
    subst he
    go_wp2_with fail
    refine(spec_byte s _ _ hs).mono ?_
    rintro e w' ⟨rfl,rfl⟩
    go_wp2_with fail
    refine(spec_digits s _ _ hs).mono ?_
    rintro e w' ⟨he,rfl⟩
    rw[H2.out]at he
    subst he
    go_wp2_with fail
    by_cases h1:byteZ s K=101∨byteZ s K=69
    ·have hltF:(K:Int)<(s.size:Int):=(byte_range (s:=s) (i:=K) (by omega)).2
     have hy:=yes_facts (by decide) h1
     by_cases h2:byteZ s (K+1)=43∨byteZ s (K+1)=45
     ·have hz:=yes_facts (by decide) h2
      have h:(K:Int)+1<(s.size:Int):=(byte_range (s:=s) (i:=K+1) (by omega)).2
      by_cases h3:runEnd chars.isDigit s (K+1+1)>K+1+1
      ·have HX:=hid (show numEnd s A=runEnd chars.isDigit s (K+1+1) by rw[HE.out];unfold expEnd;rw[if_pos h1,if_pos h2,if_pos h3])
       have f:(K:Int)+1+1<runEnd chars.isDigit s (K+1+1):=h3
       clear h1 h2 h3
       rcases hy with ⟨a1,a2,a3,a4⟩|⟨a1,a2,a3,a4⟩<;>rcases hz with ⟨c1,c2,c3,c4⟩|⟨c1,c2,c3,c4⟩
       all_goals
        go_wp2_with (first|(go_at_call 121;refine(spec_byte s _ _ hs).mono ?_;rintro e w' ⟨rfl,rfl⟩)|(go_at_call 246;refine(spec_digits s _ _ hs).mono ?_;rintro e w' ⟨rfl,rfl⟩))
        go_ret
        exact⟨by rw[HX.out];rfl,rfl⟩
      ·have HX:=hid (show numEnd s A=K by rw[HE.out];unfold expEnd;rw[if_pos h1,if_pos h2,if_neg h3])
       have f:runEnd chars.isDigit s (K+1+1)≤(K:Int)+1+1:=by omega
       clear h1 h2 h3
       rcases hy with ⟨a1,a2,a3,a4⟩|⟨a1,a2,a3,a4⟩<;>rcases hz with ⟨c1,c2,c3,c4⟩|⟨c1,c2,c3,c4⟩
       all_goals
        go_wp2_with (first|(go_at_call 121;refine(spec_byte s _ _ hs).mono ?_;rintro e w' ⟨rfl,rfl⟩)|(go_at_call 246;refine(spec_digits s _ _ hs).mono ?_;rintro e w' ⟨rfl,rfl⟩))
        go_ret
        exact⟨by rw[HX.out];rfl,rfl⟩
     ·obtain⟨c1,c2,c3,c4⟩:=no_facts h2
      by_cases h3:runEnd chars.isDigit s (K+1)>K+1
      ·have HX:=hid (show numEnd s A=runEnd chars.isDigit s (K+1) by rw[HE.out];unfold expEnd;rw[if_pos h1,if_neg h2,if_pos h3])
       have f:(K:Int)+1<runEnd chars.isDigit s (K+1):=h3
       clear h1 h2 h3
       rcases hy with ⟨a1,a2,a3,a4⟩|⟨a1,a2,a3,a4⟩
       all_goals
        go_wp2_with (first|(go_at_call 121;refine(spec_byte s _ _ hs).mono ?_;rintro e w' ⟨rfl,rfl⟩)|(go_at_call 246;refine(spec_digits s _ _ hs).mono ?_;rintro e w' ⟨rfl,rfl⟩))
        go_ret
        exact⟨by rw[HX.out];rfl,rfl⟩
      ·have HX:=hid (show numEnd s A=K by rw[HE.out];unfold expEnd;rw[if_pos h1,if_neg h2,if_neg h3])
       have f:runEnd chars.isDigit s (K+1)≤(K:Int)+1:=by omega
       clear h1 h2 h3
       rcases hy with ⟨a1,a2,a3,a4⟩|⟨a1,a2,a3,a4⟩
       all_goals
        go_wp2_with (first|(go_at_call 121;refine(spec_byte s _ _ hs).mono ?_;rintro e w' ⟨rfl,rfl⟩)|(go_at_call 246;refine(spec_digits s _ _ hs).mono ?_;rintro e w' ⟨rfl,rfl⟩))
        go_ret
        exact⟨by rw[HX.out];rfl,rfl⟩
    ·have HX:=hid (show numEnd s A=K by rw[HE.out];unfold expEnd;rw[if_neg h1])
     obtain⟨a1,a2,a3,a4⟩:=no_facts h1
     clear h1
     go_wp2_with (first|(go_at_call 121;refine(spec_byte s _ _ hs).mono ?_;rintro e w' ⟨rfl,rfl⟩)|(go_at_call 246;refine(spec_digits s _ _ hs).mono ?_;rintro e w' ⟨rfl,rfl⟩))
     go_ret
     exact⟨by rw[HX.out];rfl,rfl⟩
 ·obtain⟨d1,d2⟩:=ne_facts hd
  by_cases hz:E=A
  ·have HE:=hid (show numEnd s A= -1 by unfold numEnd;rw[hE,if_neg hd,if_pos (by omega)])
   have z1:((E:Int)==(A:Int))=true:=by rw[beq_iff_eq];omega
   clear hE hd hz
   go_enter Tryz.func166,Tryz.ntmps166
   go_wp2_with fail
   refine(spec_digits s _ _ hs).mono ?_
   rintro e w' ⟨he,rfl⟩
   rw[H1.out]at he
   subst he
   go_wp2_with fail
   refine(spec_byte s _ _ hs).mono ?_
   rintro e w' ⟨rfl,rfl⟩
   go_wp2
   go_ret
   exact⟨by rw[HE.out];rfl,rfl⟩
  ·have HE:=hid (show numEnd s A=expEnd s E by unfold numEnd;rw[hE,if_neg hd,if_neg (by omega)])
   have z1:((E:Int)==(A:Int))=false:=by rw[beq_eq_false_iff_ne];omega
   clear hE hd hz
   go_enter Tryz.func166,Tryz.ntmps166
   go_wp2_with fail
   refine(spec_digits s _ _ hs).mono ?_
   rintro e w' ⟨he,rfl⟩
   rw[H1.out]at he
   subst he
   go_wp2_with fail
   refine(spec_byte s _ _ hs).mono ?_
   rintro e w' ⟨rfl,rfl⟩
   go_wp2_with fail
   by_cases h1:byteZ s E=101∨byteZ s E=69
   ·have hltF:(E:Int)<(s.size:Int):=(byte_range (s:=s) (i:=E) (by omega)).2
    have hy:=yes_facts (by decide) h1
    by_cases h2:byteZ s (E+1)=43∨byteZ s (E+1)=45
    ·have hz:=yes_facts (by decide) h2
     have h:(E:Int)+1<(s.size:Int):=(byte_range (s:=s) (i:=E+1) (by omega)).2
     by_cases h3:runEnd chars.isDigit s (E+1+1)>E+1+1
     ·have HX:=hid (show numEnd s A=runEnd chars.isDigit s (E+1+1) by rw[HE.out];unfold expEnd;rw[if_pos h1,if_pos h2,if_pos h3])
      have f:(E:Int)+1+1<runEnd chars.isDigit s (E+1+1):=h3
      clear h1 h2 h3
      rcases hy with ⟨a1,a2,a3,a4⟩|⟨a1,a2,a3,a4⟩<;>rcases hz with ⟨c1,c2,c3,c4⟩|⟨c1,c2,c3,c4⟩
      all_goals
       go_wp2_with (first|(go_at_call 121;refine(spec_byte s _ _ hs).mono ?_;rintro e w' ⟨rfl,rfl⟩)|(go_at_call 246;refine(spec_digits s _ _ hs).mono ?_;rintro e w' ⟨rfl,rfl⟩))
       go_ret
       exact⟨by rw[HX.out];rfl,rfl⟩
     ·have HX:=hid (show numEnd s A=E by rw[HE.out];unfold expEnd;rw[if_pos h1,if_pos h2,if_neg h3])
      have f:runEnd chars.isDigit s (E+1+1)≤(E:Int)+1+1:=by omega
      clear h1 h2 h3
      rcases hy with ⟨a1,a2,a3,a4⟩|⟨a1,a2,a3,a4⟩<;>rcases hz with ⟨c1,c2,c3,c4⟩|⟨c1,c2,c3,c4⟩
      all_goals
       go_wp2_with (first|(go_at_call 121;refine(spec_byte s _ _ hs).mono ?_;rintro e w' ⟨rfl,rfl⟩)|(go_at_call 246;refine(spec_digits s _ _ hs).mono ?_;rintro e w' ⟨rfl,rfl⟩))
       go_ret
       exact⟨by rw[HX.out];rfl,rfl⟩
    ·obtain⟨c1,c2,c3,c4⟩:=no_facts h2
     by_cases h3:runEnd chars.isDigit s (E+1)>E+1
     ·have HX:=hid (show numEnd s A=runEnd chars.isDigit s (E+1) by rw[HE.out];unfold expEnd;rw[if_pos h1,if_neg h2,if_pos h3])
      have f:(E:Int)+1<runEnd chars.isDigit s (E+1):=h3
      clear h1 h2 h3
      rcases hy with ⟨a1,a2,a3,a4⟩|⟨a1,a2,a3,a4⟩
      all_goals
       go_wp2_with (first|(go_at_call 121;refine(spec_byte s _ _ hs).mono ?_;rintro e w' ⟨rfl,rfl⟩)|(go_at_call 246;refine(spec_digits s _ _ hs).mono ?_;rintro e w' ⟨rfl,rfl⟩))
       go_ret
       exact⟨by rw[HX.out];rfl,rfl⟩
     ·have HX:=hid (show numEnd s A=E by rw[HE.out];unfold expEnd;rw[if_pos h1,if_neg h2,if_neg h3])
      have f:runEnd chars.isDigit s (E+1)≤(E:Int)+1:=by omega
      clear h1 h2 h3
      rcases hy with ⟨a1,a2,a3,a4⟩|⟨a1,a2,a3,a4⟩
      all_goals
       go_wp2_with (first|(go_at_call 121;refine(spec_byte s _ _ hs).mono ?_;rintro e w' ⟨rfl,rfl⟩)|(go_at_call 246;refine(spec_digits s _ _ hs).mono ?_;rintro e w' ⟨rfl,rfl⟩))
       go_ret
       exact⟨by rw[HX.out];rfl,rfl⟩
   ·have HX:=hid (show numEnd s A=E by rw[HE.out];unfold expEnd;rw[if_neg h1])
    obtain⟨a1,a2,a3,a4⟩:=no_facts h1
    clear h1
    go_wp2_with (first|(go_at_call 121;refine(spec_byte s _ _ hs).mono ?_;rintro e w' ⟨rfl,rfl⟩)|(go_at_call 246;refine(spec_digits s _ _ hs).mono ?_;rintro e w' ⟨rfl,rfl⟩))
    go_ret
    exact⟨by rw[HX.out];rfl,rfl⟩
def RelQ(s:ByteArray)(g:Int)(A:Nat)(v:Value):Prop:=∃J:Nat,A+1≤J∧J≤s.size+1∧v= .int .i64 (J:Int)∧qEnd s g J=qEnd s g (A+1)
theorem impl_quoted(s:ByteArray)(i g:Int)(w:World)(hs:s.size≤1048576)(hg:g=34∨g=47):Calls Tryz.prog 194 #[.string s,.int .i64 i,.int .i64 g] w fun e w'=>e= .returned (.int .i64 (quoted s i g))∧w=w':=by
 have f:g≠10:=by omega
 have HG:=hid hg
 clear hg
 by_cases hb:byteZ s i=g
 ·have hr:=byte_range (s:=s) (i:=i) (by rw[hb];have:=HG.out;omega)
  obtain⟨A,rfl⟩:∃A:Nat,i=A:=⟨i.toNat,by omega⟩
  have hA:A<s.size:=by omega
  have HQ:=hid (quoted_in (s:=s) (I:=A) hb)
  obtain⟨b1,b2⟩:=eq_facts hb
  clear hb hr
  go_enter Tryz.func194,Tryz.ntmps194
  go_wp2_with (go_at_call 124;refine(impl_byte s _ _ hs).mono ?_;rintro e w' ⟨rfl,rfl⟩)
  go_loop [7] (fun j=>RelQ s g A j) (fun j=>((s.size:Int)+1-intOf j).toNat)
  case atStart=>exact⟨A+1,by omega,by omega,by go_num,rfl⟩
  case round=>
   obtain⟨J,hJ,hJs,rfl,hq⟩:=hrel
   by_cases hlt:J<s.size
   ·have hjb:=byte_in hlt
    have hlt':(J:Int)<(s.size:Int):=by omega
    by_cases c1:(s[J].toNat:Int)=g
    ·have HX:=hid ((q_sign hlt c1).symm.trans (hq.trans HQ.symm))
     obtain⟨d1,d2⟩:=eq_facts (hjb.trans c1)
     clear hq c1 hjb f
     go_wp2_with (go_at_call 124;refine(impl_byte s _ _ hs).mono ?_;rintro e w' ⟨rfl,rfl⟩)
     go_ret
     exact⟨by rw[←HX.out];rfl,rfl⟩
    ·obtain⟨d1,d2⟩:=ne_facts (show¬byteZ s J=g by rw[hjb];exact c1)
     by_cases c2:(s[J].toNat:Int)=10
     ·have HX:=hid ((q_line hlt c1 c2).symm.trans (hq.trans HQ.symm))
      obtain⟨d3,d4⟩:=eq_facts (hjb.trans c2)
      clear hq c1 c2 hjb f
      go_wp2_with (go_at_call 124;refine(impl_byte s _ _ hs).mono ?_;rintro e w' ⟨rfl,rfl⟩)
      go_ret
      exact⟨by rw[←HX.out];rfl,rfl⟩
     ·obtain⟨d3,d4⟩:=ne_facts (show¬byteZ s J=10 by rw[hjb];exact c2)
      by_cases c3:(s[J].toNat:Int)=92
      ·obtain⟨d5,d6⟩:=eq_facts (hjb.trans c3)
       by_cases c4:byteZ s (J+1)=10
       ·have HX:=hid ((q_esc_then f hlt c1 c3 c4).symm.trans hq)
        obtain⟨d7,d8⟩:=eq_facts c4
        clear hq c1 c2 c3 c4 hjb f
        go_wp2_with (go_at_call 124;refine(impl_byte s _ _ hs).mono ?_;rintro e w' ⟨rfl,rfl⟩)
        go_round
        case rel=>exact⟨J+1,by omega,by omega,by go_num,HX.out⟩
        case measure=>simp[intOf];omega
       ·have HX:=hid ((q_esc hlt c1 c3 c4).symm.trans hq)
        obtain⟨d7,d8⟩:=ne_facts c4
        clear hq c1 c2 c3 c4 hjb f
        go_wp2_with (go_at_call 124;refine(impl_byte s _ _ hs).mono ?_;rintro e w' ⟨rfl,rfl⟩)
        go_round
        case rel=>exact⟨J+2,by omega,by omega,by go_num,HX.out⟩
        case measure=>simp[intOf];omega
      ·obtain⟨d5,d6⟩:=ne_facts (show¬byteZ s J=92 by rw[hjb];exact c3)
       have HX:=hid ((q_next hlt c1 c2 c3).symm.trans hq)
       clear hq c1 c2 c3 hjb f
       go_wp2_with (go_at_call 124;refine(impl_byte s _ _ hs).mono ?_;rintro e w' ⟨rfl,rfl⟩)
       go_round
       case rel=>exact⟨J+1,by omega,by omega,by go_num,HX.out⟩
       case measure=>simp[intOf];omega
   ·have HX:=hid ((q_end hlt).symm.trans (hq.trans HQ.symm))
    have hge:(s.size:Int)≤(J:Int):=by omega
    clear hq f
    go_wp2
    go_ret
    exact⟨by rw[←HX.out];rfl,rfl⟩
 ·have HQ:=hid (quoted_out hb)
  obtain⟨b1,b2⟩:=ne_facts hb
  clear hb f
  go_enter Tryz.func194,Tryz.ntmps194
  go_wp2_with (go_at_call 124;refine(impl_byte s _ _ hs).mono ?_;rintro e w' ⟨rfl,rfl⟩)
  go_ret
  exact⟨by rw[HQ.out];rfl,rfl⟩
theorem spec_quoted(s:ByteArray)(i g:Int)(w:World)(hs:s.size≤1048576)(hg:g=34∨g=47):Calls Tryz.prog 247 #[.string s,.int .i64 i,.int .i64 g] w fun e w'=>e= .returned (.int .i64 (quoted s i g))∧w=w':=by
 have HG:=hid hg
 clear hg
 by_cases hb:byteZ s i=g
 ·have hr:=byte_range (s:=s) (i:=i) (by rw[hb];have:=HG.out;omega)
  obtain⟨A,rfl⟩:∃A:Nat,i=A:=⟨i.toNat,by omega⟩
  have hA:A<s.size:=by omega
  have HQ:=hid (quoted_in (s:=s) (I:=A) hb)
  obtain⟨b1,b2⟩:=eq_facts hb
  clear hb hr
  go_enter Tryz.func247,Tryz.ntmps247
  go_wp2_with (go_at_call 121;refine(spec_byte s _ _ hs).mono ?_;rintro e w' ⟨rfl,rfl⟩)
  go_loop [7] (fun j=>RelQ s g A j) (fun j=>((s.size:Int)+1-intOf j).toNat)
  case atStart=>exact⟨A+1,by omega,by omega,by go_num,rfl⟩
  case round=>
   obtain⟨J,hJ,hJs,rfl,hq⟩:=hrel
   by_cases hlt:J<s.size
   ·have hc:=s[J].toNat_lt
    have hlt':(J:Int)<(s.size:Int):=by omega
    by_cases c1:(s[J].toNat:Int)=g
    ·have HX:=hid ((q_sign hlt c1).symm.trans (hq.trans HQ.symm))
     obtain⟨d1,d2⟩:=eq_facts c1
     clear hq c1
     go_wp2
     go_ret
     exact⟨by rw[←HX.out];rfl,rfl⟩
    ·obtain⟨d1,d2⟩:=ne_facts c1
     by_cases c2:(s[J].toNat:Int)=10
     ·have HX:=hid ((q_line hlt c1 c2).symm.trans (hq.trans HQ.symm))
      obtain⟨d3,d4⟩:=eq_facts c2
      clear hq c1 c2
      go_wp2
      go_ret
      exact⟨by rw[←HX.out];rfl,rfl⟩
     ·obtain⟨d3,d4⟩:=ne_facts c2
      by_cases c3:(s[J].toNat:Int)=92
      ·obtain⟨d5,d6⟩:=eq_facts c3
       by_cases c4:byteZ s (J+1)=10
       ·have HX:=hid ((q_esc_line hlt c1 c3 c4).symm.trans (hq.trans HQ.symm))
        obtain⟨d7,d8⟩:=eq_facts c4
        clear hq c1 c2 c3 c4
        go_wp2_with (go_at_call 121;refine(spec_byte s _ _ hs).mono ?_;rintro e w' ⟨rfl,rfl⟩)
        go_ret
        exact⟨by rw[←HX.out];rfl,rfl⟩
       ·have HX:=hid ((q_esc hlt c1 c3 c4).symm.trans hq)
        obtain⟨d7,d8⟩:=ne_facts c4
        clear hq c1 c2 c3 c4
        go_wp2_with (go_at_call 121;refine(spec_byte s _ _ hs).mono ?_;rintro e w' ⟨rfl,rfl⟩)
        go_round
        case rel=>exact⟨J+2,by omega,by omega,by go_num,HX.out⟩
        case measure=>simp[intOf];omega
      ·obtain⟨d5,d6⟩:=ne_facts c3
       have HX:=hid ((q_next hlt c1 c2 c3).symm.trans hq)
       clear hq c1 c2 c3
       go_wp2
       go_round
       case rel=>exact⟨J+1,by omega,by omega,by go_num,HX.out⟩
       case measure=>simp[intOf];omega
   ·have HX:=hid ((q_end hlt).symm.trans (hq.trans HQ.symm))
    have hge:(s.size:Int)≤(J:Int):=by omega
    clear hq
    go_wp2
    go_ret
    exact⟨by rw[←HX.out];rfl,rfl⟩
 ·have HQ:=hid (quoted_out hb)
  obtain⟨b1,b2⟩:=ne_facts hb
  clear hb
  go_enter Tryz.func247,Tryz.ntmps247
  go_wp2_with (go_at_call 121;refine(spec_byte s _ _ hs).mono ?_;rintro e w' ⟨rfl,rfl⟩)
  go_ret
  exact⟨by rw[HQ.out];rfl,rfl⟩
theorem impl_str(s:ByteArray)(i:Int)(w:World)(hs:s.size≤1048576):Calls Tryz.prog 129 #[.string s,.int .i64 i] w fun e w'=>e= .returned (.int .i64 (strEnd s i))∧w=w':=by
 go_enter Tryz.func129,Tryz.ntmps129
 go_wp2_with fail
 refine(impl_quoted s _ _ _ hs (.inl rfl)).mono ?_
 rintro e w' ⟨rfl,rfl⟩
 go_wp2
 go_ret
 exact⟨rfl,rfl⟩
theorem spec_str(s:ByteArray)(i:Int)(w:World)(hs:s.size≤1048576):Calls Tryz.prog 167 #[.string s,.int .i64 i] w fun e w'=>e= .returned (.int .i64 (strEnd s i))∧w=w':=by
 go_enter Tryz.func167,Tryz.ntmps167
 go_wp2_with fail
 refine(spec_quoted s _ _ _ hs (.inl rfl)).mono ?_
 rintro e w' ⟨rfl,rfl⟩
 go_wp2
 go_ret
 exact⟨rfl,rfl⟩
theorem quoted_far{s:ByteArray}{i g:Int}(hg:g=34∨g=47)(h:i<0∨(s.size:Int)≤i):quoted s i g= -1:=
 quoted_out (by rw[byte_out h];omega)
theorem impl_ere(s:ByteArray)(i:Int)(w:World)(hs:s.size≤1048576):Calls Tryz.prog 131 #[.string s,.int .i64 i] w fun e w'=>e= .returned (.int .i64 (ereEnd s i))∧w=w':=by
 by_cases h0:i<0∨(s.size:Int)≤i
 ·have HQ:=hid (quoted_far (s:=s) (g:=47) (.inr rfl) h0)
  have HE:=hid (show ereEnd s i= -1 by unfold ereEnd;rw[HQ.out];split<;>rfl)
  clear h0
  by_cases hz:(-1:Int)=wrap64 (i+2)
  ·obtain⟨d1,d2⟩:=eq_facts hz
   clear hz
   go_enter Tryz.func131,Tryz.ntmps131
   go_wp2_with fail
   refine(impl_quoted s _ _ _ hs (.inr rfl)).mono ?_
   rintro e w' ⟨he,rfl⟩
   rw[HQ.out]at he
   subst he
   go_wp2
   all_goals
    go_ret
    exact⟨by rw[HE.out];rfl,rfl⟩
  ·obtain⟨d1,d2⟩:=ne_facts hz
   clear hz
   go_enter Tryz.func131,Tryz.ntmps131
   go_wp2_with fail
   refine(impl_quoted s _ _ _ hs (.inr rfl)).mono ?_
   rintro e w' ⟨he,rfl⟩
   rw[HQ.out]at he
   subst he
   go_wp2
   all_goals
    go_ret
    exact⟨by rw[HE.out];rfl,rfl⟩
 ·obtain⟨A,rfl⟩:∃A:Nat,i=A:=⟨i.toNat,by omega⟩
  have hA:A<s.size:=by omega
  clear h0
  by_cases hz:quoted s A 47=(A:Int)+2
  ·have HE:=hid (show ereEnd s A= -1 by unfold ereEnd;rw[if_pos hz])
   obtain⟨d1,d2⟩:=eq_facts hz
   clear hz
   go_enter Tryz.func131,Tryz.ntmps131
   go_wp2_with fail
   refine(impl_quoted s _ _ _ hs (.inr rfl)).mono ?_
   rintro e w' ⟨rfl,rfl⟩
   go_wp2
   go_ret
   exact⟨by rw[HE.out];rfl,rfl⟩
  ·have HE:=hid (show ereEnd s A=quoted s A 47 by unfold ereEnd;rw[if_neg hz])
   obtain⟨d1,d2⟩:=ne_facts hz
   clear hz
   go_enter Tryz.func131,Tryz.ntmps131
   go_wp2_with fail
   refine(impl_quoted s _ _ _ hs (.inr rfl)).mono ?_
   rintro e w' ⟨rfl,rfl⟩
   go_wp2
   go_ret
   exact⟨by rw[HE.out];rfl,rfl⟩
theorem spec_ere(s:ByteArray)(i:Int)(w:World)(hs:s.size≤1048576):Calls Tryz.prog 168 #[.string s,.int .i64 i] w fun e w'=>e= .returned (.int .i64 (ereEnd s i))∧w=w':=by
 by_cases h0:i<0∨(s.size:Int)≤i
 ·have HQ:=hid (quoted_far (s:=s) (g:=47) (.inr rfl) h0)
  have HE:=hid (show ereEnd s i= -1 by unfold ereEnd;rw[HQ.out];split<;>rfl)
  clear h0
  by_cases hz:(-1:Int)=wrap64 (i+2)
  ·obtain⟨d1,d2⟩:=eq_facts hz
   clear hz
   go_enter Tryz.func168,Tryz.ntmps168
   go_wp2_with fail
   refine(spec_quoted s _ _ _ hs (.inr rfl)).mono ?_
   rintro e w' ⟨he,rfl⟩
   rw[HQ.out]at he
   subst he
   go_wp2
   all_goals
    go_ret
    exact⟨by rw[HE.out];rfl,rfl⟩
  ·obtain⟨d1,d2⟩:=ne_facts hz
   clear hz
   go_enter Tryz.func168,Tryz.ntmps168
   go_wp2_with fail
   refine(spec_quoted s _ _ _ hs (.inr rfl)).mono ?_
   rintro e w' ⟨he,rfl⟩
   rw[HQ.out]at he
   subst he
   go_wp2
   all_goals
    go_ret
    exact⟨by rw[HE.out];rfl,rfl⟩
 ·obtain⟨A,rfl⟩:∃A:Nat,i=A:=⟨i.toNat,by omega⟩
  have hA:A<s.size:=by omega
  clear h0
  by_cases hz:quoted s A 47=(A:Int)+2
  ·have HE:=hid (show ereEnd s A= -1 by unfold ereEnd;rw[if_pos hz])
   obtain⟨d1,d2⟩:=eq_facts hz
   clear hz
   go_enter Tryz.func168,Tryz.ntmps168
   go_wp2_with fail
   refine(spec_quoted s _ _ _ hs (.inr rfl)).mono ?_
   rintro e w' ⟨rfl,rfl⟩
   go_wp2
   go_ret
   exact⟨by rw[HE.out];rfl,rfl⟩
  ·have HE:=hid (show ereEnd s A=quoted s A 47 by unfold ereEnd;rw[if_neg hz])
   obtain⟨d1,d2⟩:=ne_facts hz
   clear hz
   go_enter Tryz.func168,Tryz.ntmps168
   go_wp2_with fail
   refine(spec_quoted s _ _ _ hs (.inr rfl)).mono ?_
   rintro e w' ⟨rfl,rfl⟩
   go_wp2
   go_ret
   exact⟨by rw[HE.out];rfl,rfl⟩
theorem impl_nameEnd(s:ByteArray)(i:Int)(w:World)(hs:s.size≤1048576):Calls Tryz.prog 195 #[.string s,.int .i64 i] w fun e w'=>e= .returned (.int .i64 (nameEnd s i))∧w=w':=by
 by_cases hl:chars.isLetter (byteZ s i)=true
 ·have HE:=hid (show nameEnd s i=runEnd chars.isWord s i by unfold nameEnd;rw[if_pos hl])
  have hr:=cls_letter.range hl
  obtain⟨f,m⟩:=hr
  have HR:=hid (run_step cls_word (word_of_letter hl))
  go_enter Tryz.func195,Tryz.ntmps195
  go_wp2_with (first|(go_at_call 124;refine(impl_byte s _ _ hs).mono ?_;rintro e w' ⟨rfl,rfl⟩)|(go_at_call 132;refine(chars.impl_letter _ _).mono ?_;rintro e w' ⟨rfl,rfl⟩))
  go_loop [5] (fun j=>RelRun chars.isWord s i j) (fun j=>((s.size:Int)-intOf j).toNat)
  case atStart=>exact⟨i+1,rfl,HR.symm⟩
  case round=>
   obtain⟨J,rfl,hJ⟩:=hrel
   have HJ:=hid hJ
   clear hJ
   by_cases hd:chars.isWord (byteZ s J)=true
   ·have hj:=cls_word.range hd
    obtain⟨h,o⟩:=hj
    have HS:=hid ((run_step cls_word hd).symm.trans HJ.out)
    go_wp2_with (first|(go_at_call 124;refine(impl_byte s _ _ hs).mono ?_;rintro e w' ⟨rfl,rfl⟩)|(go_at_call 258;refine(chars.impl_word _ _).mono ?_;rintro e w' ⟨rfl,rfl⟩))
    go_round
    case rel=>exact⟨J+1,rfl,HS.out⟩
    case measure=>simp[intOf];omega
   ·have hd':chars.isWord (byteZ s J)=false:=by simpa using hd
    have HS:=hid ((run_stop hd').symm.trans (HJ.trans HE.symm))
    clear hd
    go_wp2_with (first|(go_at_call 124;refine(impl_byte s _ _ hs).mono ?_;rintro e w' ⟨rfl,rfl⟩)|(go_at_call 258;refine(chars.impl_word _ _).mono ?_;rintro e w' ⟨rfl,rfl⟩))
    go_ret
    exact⟨by rw[←HS.out];rfl,rfl⟩
 ·have hl':chars.isLetter (byteZ s i)=false:=by simpa using hl
  have HE:=hid (show nameEnd s i= -1 by unfold nameEnd;rw[if_neg hl])
  clear hl
  go_enter Tryz.func195,Tryz.ntmps195
  go_wp2_with (first|(go_at_call 124;refine(impl_byte s _ _ hs).mono ?_;rintro e w' ⟨rfl,rfl⟩)|(go_at_call 132;refine(chars.impl_letter _ _).mono ?_;rintro e w' ⟨rfl,rfl⟩))
  go_ret
  exact⟨by rw[HE.out];rfl,rfl⟩
theorem spec_nameEnd(s:ByteArray)(i:Int)(w:World)(hs:s.size≤1048576):Calls Tryz.prog 187 #[.string s,.int .i64 i] w fun e w'=>e= .returned (.int .i64 (nameEnd s i))∧w=w':=by
 by_cases hl:chars.isLetter (byteZ s i)=true
 ·have HE:=hid (show nameEnd s i=runEnd chars.isWord s i by unfold nameEnd;rw[if_pos hl])
  have hr:=cls_letter.range hl
  obtain⟨f,m⟩:=hr
  go_enter Tryz.func187,Tryz.ntmps187
  go_wp2_with (first|(go_at_call 121;refine(spec_byte s _ _ hs).mono ?_;rintro e w' ⟨rfl,rfl⟩)|(go_at_call 185;refine(chars.spec_letter _ _).mono ?_;rintro e w' ⟨rfl,rfl⟩))
  go_loop [1] (fun j=>RelRun chars.isWord s i j) (fun j=>((s.size:Int)-intOf j).toNat)
  case atStart=>exact⟨i,rfl,rfl⟩
  case round=>
   obtain⟨J,rfl,hJ⟩:=hrel
   have HJ:=hid hJ
   clear hJ
   by_cases hd:chars.isWord (byteZ s J)=true
   ·have hj:=cls_word.range hd
    obtain⟨h,o⟩:=hj
    have HS:=hid ((run_step cls_word hd).symm.trans HJ.out)
    go_wp2_with (first|(go_at_call 121;refine(spec_byte s _ _ hs).mono ?_;rintro e w' ⟨rfl,rfl⟩)|(go_at_call 256;refine(chars.spec_word _ _).mono ?_;rintro e w' ⟨rfl,rfl⟩))
    go_round
    case rel=>exact⟨J+1,rfl,HS.out⟩
    case measure=>simp[intOf];omega
   ·have hd':chars.isWord (byteZ s J)=false:=by simpa using hd
    have HS:=hid ((run_stop hd').symm.trans (HJ.trans HE.symm))
    clear hd
    go_wp2_with (first|(go_at_call 121;refine(spec_byte s _ _ hs).mono ?_;rintro e w' ⟨rfl,rfl⟩)|(go_at_call 256;refine(chars.spec_word _ _).mono ?_;rintro e w' ⟨rfl,rfl⟩))
    go_ret
    exact⟨by rw[←HS.out];rfl,rfl⟩
 ·have hl':chars.isLetter (byteZ s i)=false:=by simpa using hl
  have HE:=hid (show nameEnd s i= -1 by unfold nameEnd;rw[if_neg hl])
  clear hl
  go_enter Tryz.func187,Tryz.ntmps187
  go_wp2_with (first|(go_at_call 121;refine(spec_byte s _ _ hs).mono ?_;rintro e w' ⟨rfl,rfl⟩)|(go_at_call 185;refine(chars.spec_letter _ _).mono ?_;rintro e w' ⟨rfl,rfl⟩))
  go_ret
  exact⟨by rw[HE.out];rfl,rfl⟩
end Go.Proofs.YtebjmdpkobhcbaaGreatDoor.scan

namespace Go.Proofs.YtebjmdpkobhcbaaGreatDoor.ops
open Lib (hid)
open Go.ChangeShapes Go.WideShapes Go.ChangeAt Go.RowKit
open toks (signs)
open spell (Held)
open scan (eq_facts ne_facts)
set_option linter.unusedVariables false
set_option maxRecDepth 20000
def signAt(k:Nat):ByteArray:=signs.getD k ⟨#[]⟩
theorem sign_bd:∀k,k<39→1≤(signAt k).size∧(signAt k).size≤2:=by decide+kernel
def here(s:ByteArray)(i:Int)(p:ByteArray):Bool:=decide (0≤i)&&(decide (i≤s.size)&&Lib.hasPrefix (s.data.toList.drop i.toNat) p.data.toList)
theorem here_neg{s:ByteArray}{i:Int}{p:ByteArray}(h:i<0):here s i p=false:=by
 unfold here
 rw[show decide (0≤i)=false by rw[decide_eq_false_iff_not];omega]
 rfl
theorem here_far{s:ByteArray}{i:Int}{p:ByteArray}(h:(s.size:Int)<i):here s i p=false:=by
 unfold here
 rw[show decide (i≤(s.size:Int))=false by rw[decide_eq_false_iff_not];omega]
 simp
theorem here_in{s:ByteArray}{A:Nat}{p:ByteArray}(h:A≤s.size):here s A p=Lib.hasPrefix (s.data.toList.drop A) p.data.toList:=by
 unfold here
 simp[h]
theorem rest_data(s:ByteArray)(A:Nat):(s.extract A s.size).data.toList=s.data.toList.drop A:=by
 rw[Lib.extract_data,List.take_of_length_le]
 simp
theorem here_rest{s:ByteArray}{A:Nat}{p:ByteArray}(h:A≤s.size):here s A p=Lib.hasPrefix (s.extract A s.size).data.toList p.data.toList:=by
 rw[here_in h,rest_data]
theorem here_cut{s:ByteArray}{A:Nat}{p:ByteArray}(h:A≤s.size):here s A p=(decide ((p.size:Int)≤(s.size:Int)-A)&&((s.extract A (A+p.size)).toList==p.toList)):=by
 rw[here_in h,←Lib.hasPrefix_of_take,ByteArray.toList_eq,ByteArray.toList_eq,Lib.extract_data]
 have h1:(s.data.toList.drop A).length=s.size-A:=by simp
 have h2:p.data.toList.length=p.size:=rfl
 rw[h1,h2,show A+p.size-A=p.size by omega]
 congr 1
 rw[Bool.eq_iff_iff]
 simp
 omega
def opTo(s:ByteArray)(i:Int):Nat→Int×Int
 |0=>(0,0)
 |k+1=>if here s i (signAt k)=true∧(opTo s i k).2<((signAt k).size:Int)then((k:Int)+30,((signAt k).size:Int))else opTo s i k
def opAt(s:ByteArray)(i:Int):Int×Int:=opTo s i 39
theorem op_yes{s:ByteArray}{i:Int}{k:Nat}(h1:here s i (signAt k)=true)(h2:(opTo s i k).2<((signAt k).size:Int)):opTo s i (k+1)=((k:Int)+30,((signAt k).size:Int)):=by
 rw[opTo,if_pos ⟨h1,h2⟩]
theorem op_no{s:ByteArray}{i:Int}{k:Nat}(h1:¬(here s i (signAt k)=true∧(opTo s i k).2<((signAt k).size:Int))):opTo s i (k+1)=opTo s i k:=by
 rw[opTo,if_neg h1]
theorem op_bd(s:ByteArray)(i:Int):∀k,k≤39→0≤(opTo s i k).1∧(opTo s i k).1≤68∧0≤(opTo s i k).2∧(opTo s i k).2≤2
 |0,_=>by simp[opTo]
 |k+1,h=>by
  have:=op_bd s i k (by omega)
  have:=sign_bd k (by omega)
  rw[opTo]
  split
  ·simp only;omega
  ·exact op_bd s i k (by omega)
theorem op_out(s:ByteArray)(i:Int)(h:i<0∨(s.size:Int)≤i):∀k,k≤39→opTo s i k=(0,0)
 |0,_=>rfl
 |k+1,hk=>by
  have hb:=sign_bd k (by omega)
  rw[op_no]
  ·exact op_out s i h k (by omega)
  ·rintro⟨h1,-⟩
   have:here s i (signAt k)=false:=by
    rcases h with h|h
    ·exact here_neg h
    ·rcases Int.lt_or_eq_of_le h with h|h
     ·exact here_far h
     ·subst h
      rw[here_cut (Nat.le_refl _)]
      rw[show decide (((signAt k).size:Int)≤(s.size:Int)-(s.size:Int))=false by rw[decide_eq_false_iff_not];omega]
      rfl
   rw[this]at h1
   cases h1
theorem prefix_any(s p:ByteArray)(w:World):Calls Tryz.prog 125 #[.string s,.string p] w fun e w'=>e= .returned (.bool (Lib.hasPrefix s.data.toList p.data.toList))∧w=w':=
 (Tryz.strings_HasPrefix s p w).mono fun _ _ h=>⟨h.1,h.2.symm⟩
theorem contains_any(s:ByteArray)(c:UInt8)(w:World):Calls Tryz.prog 230 #[.string s,.string ⟨#[c]⟩] w fun e w'=>e= .returned (.bool (decide (0≤Lib.indexByte s.data.toList c)))∧w=w':=
 (Tryz.strings_Contains_one s c w).mono fun _ _ h=>⟨h.1,h.2.symm⟩
def RelO(s:ByteArray)(i:Int)(k n c:Value):Prop:=∃K:Nat,K≤39∧c= .int .i64 ((K:Int)+30)∧k= .int .i64 (opTo s i K).1∧n= .int .i64 (opTo s i K).2
set_option maxHeartbeats 1600000 in
theorem impl_op(s:ByteArray)(i:Int)(w:World)(hs:s.size≤1048576)(hh:Held w):Calls Tryz.prog 134 #[.string s,.int .i64 i] w fun e w'=>e= .returned (.tuple #[.int .i64 (opAt s i).1,.int .i64 (opAt s i).2])∧w=w':=by
 have HH:=hid hh
 clear hh
 by_cases h0:i<0
 ·have HE:=hid (show opAt s i=(0,0)from op_out s i (.inl h0) 39 (by omega))
  go_enter Tryz.func134,Tryz.ntmps134
  go_wp2
  go_ret2
  exact⟨by rw[HE.out];rfl,rfl⟩
 obtain⟨A,rfl⟩:∃A:Nat,i=A:=⟨i.toNat,by omega⟩
 clear h0
 by_cases h1:s.size≤A
 ·have HE:=hid (show opAt s A=(0,0)from op_out s A (.inr (by omega)) 39 (by omega))
  go_enter Tryz.func134,Tryz.ntmps134
  go_wp2
  go_ret2
  exact⟨by rw[HE.out];rfl,rfl⟩
 have hA:A<s.size:=by omega
 have hA':A≤s.size:=by omega
 have hz:decide ((A:Int)<0)=false:=by rw[decide_eq_false_iff_not];omega
 have f:decide (s.size≤A)=false:=by rw[decide_eq_false_iff_not];omega
 clear h1
 go_enter Tryz.func134,Tryz.ntmps134
 go_wp2
 go_loop [6,7,8] (fun k n c=>RelO s A k n c) (fun _ _ c=>(69-intOf c).toNat)
 case atStart=>exact⟨0,by omega,rfl,rfl,rfl⟩
 case round=>
  obtain⟨K,hK,rfl,rfl,rfl⟩:=hrel
  obtain⟨P,hP⟩:∃P,P=opTo s A K:=⟨_,rfl⟩
  have hb:=op_bd s A K hK
  rw[←hP]at hb⊢
  have HP:=hid hP
  clear hP
  by_cases hlt:K<39
  ·have hc:(K:Int)+30≤68:=by omega
   have HS:=hid (show spell.spell ((K:Int)+30)=signAt K from spell.spell_sign K hlt)
   obtain⟨x,hx⟩:∃x,x=signAt K:=⟨_,rfl⟩
   have hxb:=sign_bd K hlt
   rw[←hx]at hxb
   have HX:=hid hx
   clear hx
   by_cases h2:P.2<(x.size:Int)
   ·have h4:here s A x=Lib.hasPrefix (List.take (s.size-A) (List.drop A s.data.toList)) x.data.toList:=by
     rw[here_rest hA',Lib.extract_data]
    have H4:=hid h4
    clear h4
    cases h3:Lib.hasPrefix (List.take (s.size-A) (List.drop A s.data.toList)) x.data.toList
    ·have HN:=hid (show opTo s A (K+1)=P by
      rw[op_no,←HP.out]
      rw[←HX.out,H4.out,h3]
      simp)
     go_wp2_with (first|(go_at_call 39;refine(spell.impl_spell _ _ HH.out).mono ?_;rintro e w' ⟨he,rfl⟩;rw[HS.out,←HX.out]at he;subst he)|(go_at_call 125;refine(prefix_any _ _ _).mono ?_;rintro e w' ⟨rfl,rfl⟩))
     go_round
     case rel=>exact⟨K+1,by omega,congrArg (Value.int .i64) (by omega),by rw[HN.out],by rw[HN.out]⟩
     case measure=>simp[intOf];omega
    ·have HN:=hid (show opTo s A (K+1)=((K:Int)+30,(x.size:Int)) by
      rw[HX.out]
      refine op_yes ?_ ?_
      ·rw[←HX.out,H4.out,h3]
      ·rw[←HP.out,←HX.out];exact h2)
     go_wp2_with (first|(go_at_call 39;refine(spell.impl_spell _ _ HH.out).mono ?_;rintro e w' ⟨he,rfl⟩;rw[HS.out,←HX.out]at he;subst he)|(go_at_call 125;refine(prefix_any _ _ _).mono ?_;rintro e w' ⟨rfl,rfl⟩))
     go_round
     case rel=>exact⟨K+1,by omega,congrArg (Value.int .i64) (by omega),by rw[HN.out],by rw[HN.out]⟩
     case measure=>simp[intOf];omega
   ·have HN:=hid (show opTo s A (K+1)=P by
     rw[op_no,←HP.out]
     rintro⟨-,h⟩
     rw[←HP.out,←HX.out]at h
     exact h2 h)
    have j:(x.size:Int)≤P.2:=by omega
    clear h2
    go_wp2_with (go_at_call 39;refine(spell.impl_spell _ _ HH.out).mono ?_;rintro e w' ⟨he,rfl⟩;rw[HS.out,←HX.out]at he;subst he)
    go_round
    case rel=>exact⟨K+1,by omega,congrArg (Value.int .i64) (by omega),by rw[HN.out],by rw[HN.out]⟩
    case measure=>simp[intOf];omega
  ·obtain rfl:K=39:=by omega
   have HE:=hid (show opAt s A=P from HP.symm)
   go_wp2
   go_ret2
   exact⟨by rw[HE.out];rfl,rfl⟩
theorem below_drewN{B:Nat}{w w1:World}(h:Below B w w1)(n:Nat):Below B w (w1.drewN n):=⟨h.os,h.tape,h.output,h.size,h.block⟩
def RelS(s:ByteArray)(i:Int)(w1:World)(k n c:Value)(wr:World):Prop:=
 ∃K:Nat,K≤39∧c= .int .i64 (K:Int)∧k= .int .i64 (opTo s i K).1∧n= .int .i64 (opTo s i K).2∧Below w1.heap.size w1 wr
end Go.Proofs.YtebjmdpkobhcbaaGreatDoor.ops

namespace Go.Proofs.YtebjmdpkobhcbaaGreatDoor.tok
open Lib (hid)
open Go.ChangeShapes Go.WideShapes Go.ChangeAt Go.RowKit
open spell (Held)
open scan (eq_facts ne_facts)
set_option linter.unusedVariables false
set_option maxRecDepth 20000
def comment(s:ByteArray):Bool:=Lib.hasPrefix s.data.toList [35]&& !decide (0≤Lib.indexByte s.data.toList 10)
def tokOk(k:Int)(s:ByteArray):Bool:=
 if k=2 then comment s
 else if k=3 then scan.numEnd s 0==(s.size:Int)
 else if k=4 then scan.strEnd s 0==(s.size:Int)
 else if k=5 then scan.ereEnd s 0==(s.size:Int)
 else if k=6∨k=7 then spell.nameOk s
 else if k=8 then toks.isBuiltin s
 else !s.toList.isEmpty&&(s.toList==(spell.spell k).toList)
theorem below_drewN{B:Nat}{w w1:World}(h:Below B w w1)(n:Nat):Below B w (w1.drewN n):=⟨h.os,h.tape,h.output,h.size,h.block⟩
theorem below_box(w:World)(c:Obj):Below w.heap.size w (w.alloc c):=(Below.refl _ _).alloc (Nat.le_refl _) _
theorem hash_any(s:ByteArray)(w:World):Calls Tryz.prog 125 #[.string s,.string ⟨#[35]⟩] w fun e w'=>e= .returned (.bool (Lib.hasPrefix s.data.toList [35]))∧w=w':=ops.prefix_any s ⟨#[35]⟩ w
set_option maxHeartbeats 1600000 in
theorem impl_tok(k a:Int)(s:ByteArray)(w:World)(hs:s.size≤1048576)(hh:Held w):Calls Tryz.prog 152 #[.agg #[.int .i64 k,.string s,.int .i64 a]] w fun e w'=>e= .returned (.bool (tokOk k s))∧Below w.heap.size w w':=by
 have HH:=hid hh
 clear hh
 by_cases h2:k=2
 ·subst h2
  cases hp:Lib.hasPrefix s.data.toList [35]
  ·have HE:=hid (show tokOk 2 s=false by show comment s=false;unfold comment;rw[hp];rfl)
   go_enter Tryz.func152,Tryz.ntmps152
   go_wp2_with (go_at_call 125;refine(hash_any _ _).mono ?_;rintro e w' ⟨rfl,rfl⟩)
   go_ret
   exact⟨by rw[HE.out];rfl,below_box _ _⟩
  ·have HE:=hid (show tokOk 2 s= !decide (0≤Lib.indexByte s.data.toList 10) by show comment s=_;unfold comment;rw[hp];rfl)
   go_enter Tryz.func152,Tryz.ntmps152
   go_wp2_with (first|(go_at_call 125;refine(hash_any _ _).mono ?_;rintro e w' ⟨rfl,rfl⟩)|(go_at_call 230;refine(ops.contains_any _ _ _).mono ?_;rintro e w' ⟨rfl,rfl⟩))
   go_ret
   exact⟨by rw[HE.out];rfl,below_box _ _⟩
 by_cases h3:k=3
 ·subst h3
  have HE:=hid (show tokOk 3 s=(scan.numEnd s 0==(s.size:Int))from rfl)
  go_enter Tryz.func152,Tryz.ntmps152
  go_wp2
  go_quiet ((go_at_call 128;exact Calls.quiet_of_same ((scan.impl_num s 0 _ hs).mono fun _ _ h=>⟨h.1,h.2.symm⟩)))
  go_wp2
  go_ret
  exact⟨by rw[HE.out];rfl,below_drewN (below_box _ _) _⟩
 by_cases h4:k=4
 ·subst h4
  have HE:=hid (show tokOk 4 s=(scan.strEnd s 0==(s.size:Int))from rfl)
  go_enter Tryz.func152,Tryz.ntmps152
  go_wp2
  go_quiet ((go_at_call 129;exact Calls.quiet_of_same ((scan.impl_str s 0 _ hs).mono fun _ _ h=>⟨h.1,h.2.symm⟩)))
  go_wp2
  go_ret
  exact⟨by rw[HE.out];rfl,below_drewN (below_box _ _) _⟩
 by_cases h5:k=5
 ·subst h5
  have HE:=hid (show tokOk 5 s=(scan.ereEnd s 0==(s.size:Int))from rfl)
  go_enter Tryz.func152,Tryz.ntmps152
  go_wp2
  go_quiet ((go_at_call 131;exact Calls.quiet_of_same ((scan.impl_ere s 0 _ hs).mono fun _ _ h=>⟨h.1,h.2.symm⟩)))
  go_wp2
  go_ret
  exact⟨by rw[HE.out];rfl,below_drewN (below_box _ _) _⟩
 by_cases h6:k=6
 ·subst h6
  have HE:=hid (show tokOk 6 s=spell.nameOk s from rfl)
  go_enter Tryz.func152,Tryz.ntmps152
  go_wp2_with (go_at_call 231;refine(spell.impl_name s _ hs (HH.below (below_box _ _))).mono ?_;rintro e w' ⟨rfl,rfl⟩)
  go_ret
  exact⟨by rw[HE.out];rfl,below_box _ _⟩
 by_cases h7:k=7
 ·subst h7
  have HE:=hid (show tokOk 7 s=spell.nameOk s from rfl)
  go_enter Tryz.func152,Tryz.ntmps152
  go_wp2_with (go_at_call 231;refine(spell.impl_name s _ hs (HH.below (below_box _ _))).mono ?_;rintro e w' ⟨rfl,rfl⟩)
  go_ret
  exact⟨by rw[HE.out];rfl,below_box _ _⟩
 by_cases h8:k=8
 ·subst h8
  have HE:=hid (show tokOk 8 s=toks.isBuiltin s from rfl)
  go_enter Tryz.func152,Tryz.ntmps152
  go_wp2_with (go_at_call 198;refine(toks.impl_builtin s _).mono ?_;rintro e w' ⟨rfl,rfl⟩)
  go_ret
  exact⟨by rw[HE.out];rfl,below_box _ _⟩
 have HD:=hid (show tokOk k s=(!s.toList.isEmpty&&(s.toList==(spell.spell k).toList)) by simp[tokOk,h2,h3,h4,h5,h6,h7,h8])
 obtain⟨d2,-⟩:=ne_facts h2
 obtain⟨d3,-⟩:=ne_facts h3
 obtain⟨d4,-⟩:=ne_facts h4
 obtain⟨d5,-⟩:=ne_facts h5
 obtain⟨d6,-⟩:=ne_facts h6
 obtain⟨d7,-⟩:=ne_facts h7
 obtain⟨d8,-⟩:=ne_facts h8
 clear h2 h3 h4 h5 h6 h7 h8
 cases he:s.toList.isEmpty
 ·have HE:=hid (show tokOk k s=(s.toList==(spell.spell k).toList) by rw[HD.out,he];rfl)
  have he':¬s.toList=[]:=by intro h;rw[h]at he;cases he
  go_enter Tryz.func152,Tryz.ntmps152
  go_wp2
  go_quiet ((go_at_call 39;exact Calls.quiet_of_same ((spell.impl_spell k _ (HH.below (below_drewN (below_box _ _) _))).mono fun _ _ h=>⟨h.1,h.2.symm⟩)))
  go_wp2
  go_ret
  exact⟨by rw[HE.out];rfl,below_drewN (below_box _ _) _⟩
 ·have HE:=hid (show tokOk k s=false by rw[HD.out,he];rfl)
  have he':s.toList=[]:=by simpa using he
  go_enter Tryz.func152,Tryz.ntmps152
  go_wp2
  go_quiet (fail)
  go_wp2
  go_ret
  exact⟨by rw[HE.out];rfl,below_drewN (below_box _ _) _⟩
def free10(s:ByteArray)(I:Nat):Prop:=∀j,j<I→s.data.toList[j]?≠some 10
def RelPlain(s:ByteArray)(i:Value):Prop:=∃I:Nat,I≤s.size∧i= .int .i64 (I:Int)∧free10 s I
end Go.Proofs.YtebjmdpkobhcbaaGreatDoor.tok

namespace Go.Proofs.YtebjmdpkobhcbaaGreatDoor.scan
open Go.RowKit
set_option linter.unusedVariables false
theorem cut_size{s:ByteArray}{K E:Nat}(h:E≤s.size):(s.extract K E).size=E-K:=by
 rw[ByteArray.size_extract,Nat.min_eq_left h]
theorem cut_get{s:ByteArray}{K E j:Nat}(h:E≤s.size)(hj:K+j<E):(s.extract K E).data.toList.getD j 0=s.data.toList.getD (K+j) 0:=by
 rw[Lib.extract_data,List.getD_eq_getElem?_getD,List.getD_eq_getElem?_getD,List.getElem?_take,if_pos (by omega),List.getElem?_drop]
theorem cut_byte{s:ByteArray}{K E:Nat}(h:E≤s.size)(hK:K≤E)(j:Int)(h0:0≤j)(hj:(K:Int)+j<(E:Int)):byteZ (s.extract K E) j=byteZ s ((K:Int)+j):=by
 obtain⟨J,rfl⟩:∃J:Nat,j=J:=⟨j.toNat,by omega⟩
 unfold byteZ
 rw[if_pos (by rw[cut_size h];omega),if_pos (by omega)]
 rw[show((J:Int)).toNat=J by omega,show((K:Int)+(J:Int)).toNat=K+J by omega,cut_get h (by omega)]
theorem cut_end{s:ByteArray}{K E:Nat}(h:E≤s.size)(hK:K≤E)(j:Int)(hj:(E:Int)≤(K:Int)+j):byteZ (s.extract K E) j= -1:=by
 refine byte_out (.inr ?_)
 rw[cut_size h]
 omega
theorem run_cut{p:Int→Bool}(hp:Cls p){s:ByteArray}{K E:Nat}(h:E≤s.size)(hK:K≤E)(j:Int)(h0:0≤j)(hR:runEnd p s ((K:Int)+j)≤(E:Int)):
  runEnd p (s.extract K E) j=runEnd p s ((K:Int)+j)-(K:Int):=by
 have hge:=run_ge p s ((K:Int)+j)
 generalize hn:((E:Int)-((K:Int)+j)).toNat=n
 induction n using Nat.strongRecOn generalizing j with
 |ind n ih=>
  cases hc:p (byteZ s ((K:Int)+j))
  ·rw[run_stop hc]
   have:p (byteZ (s.extract K E) j)=false:=by
    by_cases hj:(K:Int)+j<(E:Int)
    ·rw[cut_byte h hK j h0 hj];exact hc
    ·rw[cut_end h hK j (by omega)];exact hp
   rw[run_stop this]
   omega
  ·have hs:=run_step hp hc
   have hl:=run_lt hp hc
   have hj:(K:Int)+j<(E:Int):=by omega
   have hc':p (byteZ (s.extract K E) j)=true:=by rw[cut_byte h hK j h0 hj];exact hc
   rw[run_step hp hc',hs]
   have e:(K:Int)+j+1=(K:Int)+(j+1):=by omega
   rw[e]at hs⊢
   exact ih _ (by omega) (j+1) (by omega) (by rw[←hs];exact hR) (run_ge p s _) rfl
theorem exp_ge(s:ByteArray)(i:Int):i≤expEnd s i:=by
 unfold expEnd
 split
 ·split
  ·split<;>omega
  ·split<;>omega
 ·omega
theorem exp_le(s:ByteArray)(i:Int)(h:i≤(s.size:Int)):expEnd s i≤(s.size:Int):=by
 unfold expEnd
 split
 ·rename_i h1
  have r1:=byte_range (s:=s) (i:=i) (by omega)
  split
  ·rename_i h2
   have r2:=byte_range (s:=s) (i:=i+1) (by omega)
   have:=run_le chars.isDigit s (i+1+1) (by omega)
   split<;>omega
  ·have:=run_le chars.isDigit s (i+1) (by omega)
   split<;>omega
 ·exact h
theorem exp_cut{s:ByteArray}{K E:Nat}(h:E≤s.size)(hK:K≤E)(i:Int)(h0:0≤i)(he:expEnd s ((K:Int)+i)=(E:Int)):expEnd (s.extract K E) i=(E:Int)-(K:Int):=by
 by_cases hE:(K:Int)+i=(E:Int)
 ·have hb:=cut_end h hK i (by omega)
  unfold expEnd
  rw[if_neg (by rw[hb];decide)]
  omega
 ·unfold expEnd at he
  by_cases h1:byteZ s ((K:Int)+i)=101∨byteZ s ((K:Int)+i)=69
  ·rw[if_pos h1]at he
   by_cases h2:byteZ s ((K:Int)+i+1)=43∨byteZ s ((K:Int)+i+1)=45
   ·rw[if_pos h2]at he
    by_cases h3:runEnd chars.isDigit s ((K:Int)+i+1+1)>(K:Int)+i+1+1
    ·rw[if_pos h3]at he
     have b0:=cut_byte h hK i h0 (by omega)
     have b1:=cut_byte h hK (i+1) (by omega) (by omega)
     have rc:=run_cut cls_digit h hK (i+1+1) (by omega) (by rw[show(K:Int)+(i+1+1)=(K:Int)+i+1+1 by omega,he];omega)
     rw[show(K:Int)+(i+1)=(K:Int)+i+1 by omega]at b1
     rw[show(K:Int)+(i+1+1)=(K:Int)+i+1+1 by omega,he]at rc
     unfold expEnd
     rw[if_pos (by rw[b0];exact h1),if_pos (by rw[b1];exact h2),if_pos (by rw[rc];omega),rc]
    ·rw[if_neg h3]at he
     exact absurd he hE
   ·rw[if_neg h2]at he
    by_cases h3:runEnd chars.isDigit s ((K:Int)+i+1)>(K:Int)+i+1
    ·rw[if_pos h3]at he
     have b0:=cut_byte h hK i h0 (by omega)
     have b1:=cut_byte h hK (i+1) (by omega) (by omega)
     have rc:=run_cut cls_digit h hK (i+1) (by omega) (by rw[show(K:Int)+(i+1)=(K:Int)+i+1 by omega,he];omega)
     rw[show(K:Int)+(i+1)=(K:Int)+i+1 by omega]at b1
     rw[show(K:Int)+(i+1)=(K:Int)+i+1 by omega,he]at rc
     unfold expEnd
     rw[if_pos (by rw[b0];exact h1),if_neg (by rw[b1];exact h2),if_pos (by rw[rc];omega),rc]
    ·rw[if_neg h3]at he
     exact absurd he hE
  ·rw[if_neg h1]at he
   exact absurd he hE
theorem num_cut{s:ByteArray}{k:Int}(h:0≤numEnd s k):∃K E:Nat,k=K∧numEnd s k=E∧K<E∧E≤s.size∧numEnd (s.extract K E) 0=((s.extract K E).size:Int):=by
 have hr:0≤k∧k<(s.size:Int):=by
  by_cases hr:k<0∨(s.size:Int)≤k
  ·rw[num_out hr]at h;omega
  ·omega
 obtain⟨K,rfl⟩:∃K:Nat,k=K:=⟨k.toNat,by omega⟩
 have d1:=run_ge chars.isDigit s K
 have d2:=run_le chars.isDigit s K (by omega)
 by_cases hd:byteZ s (runEnd chars.isDigit s K)=46
 ·have r1:=byte_range (s:=s) (i:=runEnd chars.isDigit s K) (by omega)
  have k1:=run_ge chars.isDigit s (runEnd chars.isDigit s K+1)
  have k2:=run_le chars.isDigit s (runEnd chars.isDigit s K+1) (by omega)
  by_cases hz:runEnd chars.isDigit s K=K∧runEnd chars.isDigit s (runEnd chars.isDigit s K+1)=runEnd chars.isDigit s K+1
  ·unfold numEnd at h
   rw[if_pos hd,if_pos hz]at h
   omega
  ·have hn:numEnd s K=expEnd s (runEnd chars.isDigit s (runEnd chars.isDigit s K+1)):=by unfold numEnd;rw[if_pos hd,if_neg hz]
   have x1:=exp_ge s (runEnd chars.isDigit s (runEnd chars.isDigit s K+1))
   have x2:=exp_le s (runEnd chars.isDigit s (runEnd chars.isDigit s K+1)) k2
   obtain⟨E,hE⟩:∃E:Nat,numEnd s K=E:=⟨(numEnd s K).toNat,by omega⟩
   have hEs:E≤s.size:=by omega
   have hKE:K≤E:=by omega
   refine⟨K,E,rfl,hE,by omega,hEs, ?_⟩
   have c0:=run_cut cls_digit hEs hKE 0 (by omega) (by rw[show(K:Int)+0=K by omega];omega)
   rw[show(K:Int)+0=K by omega]at c0
   have cb:=cut_byte hEs hKE (runEnd chars.isDigit s K-K) (by omega) (by omega)
   rw[show(K:Int)+(runEnd chars.isDigit s K-K)=runEnd chars.isDigit s K by omega]at cb
   have c1:=run_cut cls_digit hEs hKE (runEnd chars.isDigit s K-K+1) (by omega) (by rw[show(K:Int)+(runEnd chars.isDigit s K-K+1)=runEnd chars.isDigit s K+1 by omega];omega)
   rw[show(K:Int)+(runEnd chars.isDigit s K-K+1)=runEnd chars.isDigit s K+1 by omega]at c1
   have cx:=exp_cut hEs hKE (runEnd chars.isDigit s (runEnd chars.isDigit s K+1)-K) (by omega) (by rw[show(K:Int)+(runEnd chars.isDigit s (runEnd chars.isDigit s K+1)-K)=runEnd chars.isDigit s (runEnd chars.isDigit s K+1) by omega];omega)
   unfold numEnd
   rw[c0,if_pos (by rw[cb];exact hd),c1,if_neg (by omega),cx,cut_size hEs]
   omega
 ·by_cases hz:runEnd chars.isDigit s K=K
  ·unfold numEnd at h
   rw[if_neg hd,if_pos hz]at h
   omega
  ·have hn:numEnd s K=expEnd s (runEnd chars.isDigit s K):=by unfold numEnd;rw[if_neg hd,if_neg hz]
   have x1:=exp_ge s (runEnd chars.isDigit s K)
   have x2:=exp_le s (runEnd chars.isDigit s K) d2
   obtain⟨E,hE⟩:∃E:Nat,numEnd s K=E:=⟨(numEnd s K).toNat,by omega⟩
   have hEs:E≤s.size:=by omega
   have hKE:K≤E:=by omega
   refine⟨K,E,rfl,hE,by omega,hEs, ?_⟩
   have c0:=run_cut cls_digit hEs hKE 0 (by omega) (by rw[show(K:Int)+0=K by omega];omega)
   rw[show(K:Int)+0=K by omega]at c0
   have cb:¬byteZ (s.extract K E) (runEnd chars.isDigit s K-K)=46:=by
    by_cases hl:runEnd chars.isDigit s K<(E:Int)
    ·have:=cut_byte hEs hKE (runEnd chars.isDigit s K-K) (by omega) (by omega)
     rw[show(K:Int)+(runEnd chars.isDigit s K-K)=runEnd chars.isDigit s K by omega]at this
     rw[this];exact hd
    ·rw[cut_end hEs hKE _ (by omega)];decide
   have cx:=exp_cut hEs hKE (runEnd chars.isDigit s K-K) (by omega) (by rw[show(K:Int)+(runEnd chars.isDigit s K-K)=runEnd chars.isDigit s K by omega];omega)
   unfold numEnd
   rw[c0,if_neg cb,if_neg (by omega),cx,cut_size hEs]
   omega
theorem q_props{s:ByteArray}{g:Int}{j:Nat}(h:0≤qEnd s g j):(j:Int)<qEnd s g j∧qEnd s g j≤(s.size:Int):=by
 generalize hn:s.size-j=n
 induction n using Nat.strongRecOn generalizing j with
 |ind n ih=>
  by_cases hj:j<s.size
  ·by_cases h1:(s[j].toNat:Int)=g
   ·rw[q_sign hj h1];omega
   ·by_cases h2:(s[j].toNat:Int)=10
    ·rw[q_line hj h1 h2]at h;omega
    ·by_cases h3:(s[j].toNat:Int)=92
     ·by_cases h4:byteZ s (j+1)=10
      ·rw[q_esc_line hj h1 h3 h4]at h;omega
      ·rw[q_esc hj h1 h3 h4]at h⊢
       have:=ih _ (by omega) h rfl
       omega
     ·rw[q_next hj h1 h2 h3]at h⊢
      have:=ih _ (by omega) h rfl
      omega
  ·rw[q_end hj]at h;omega
theorem name_props{s:ByteArray}{k:Int}(h:0≤nameEnd s k):∃K E:Nat,k=K∧nameEnd s k=E∧K<E∧E≤s.size∧chars.isLetter (byteZ s K)=true:=by
 unfold nameEnd at h⊢
 by_cases hl:chars.isLetter (byteZ s k)=true
 ·rw[if_pos hl]at h⊢
  have hr:=cls_letter.range hl
  obtain⟨K,rfl⟩:∃K:Nat,k=K:=⟨k.toNat,by omega⟩
  have h1:=run_lt cls_word (word_of_letter hl)
  have h2:=run_le chars.isWord s K (by omega)
  exact⟨K,(runEnd chars.isWord s K).toNat,rfl,by omega,by omega,by omega,hl⟩
 ·rw[if_neg hl]at h;omega
end Go.Proofs.YtebjmdpkobhcbaaGreatDoor.scan

namespace Go.Proofs.YtebjmdpkobhcbaaGreatDoor.lex
open Go.RowKit
open tk scan
set_option linter.unusedVariables false
def gapZ(s:ByteArray)(i:Nat):Nat:=
 if h:i<s.size then
  if chars.isBlank (byteZ s i)=true then gapZ s (i+1)
  else if byteZ s i=92∧byteZ s ((i:Int)+1)=10 then gapZ s (i+2)
  else i
 else i
termination_by s.size-i
decreasing_by all_goals omega
theorem gap_out{s:ByteArray}{i:Nat}(h:¬i<s.size):gapZ s i=i:=by rw[gapZ,dif_neg h]
theorem gap_blank{s:ByteArray}{i:Nat}(h:i<s.size)(hb:chars.isBlank (byteZ s i)=true):gapZ s i=gapZ s (i+1):=by
 rw[gapZ,dif_pos h,if_pos hb]
theorem gap_join{s:ByteArray}{i:Nat}(h:i<s.size)(hb:chars.isBlank (byteZ s i)=false)(hj:byteZ s i=92∧byteZ s ((i:Int)+1)=10):gapZ s i=gapZ s (i+2):=by
 rw[gapZ,dif_pos h,if_neg (by rw[hb];decide),if_pos hj]
theorem gap_stop{s:ByteArray}{i:Nat}(h:i<s.size)(hb:chars.isBlank (byteZ s i)=false)(hj:¬(byteZ s i=92∧byteZ s ((i:Int)+1)=10)):gapZ s i=i:=by
 rw[gapZ,dif_pos h,if_neg (by rw[hb];decide),if_neg hj]
theorem join_lt{s:ByteArray}{i:Nat}(hj:byteZ s ((i:Int)+1)=10):i+1<s.size:=by
 have:=byte_range (s:=s) (i:=(i:Int)+1) (by omega)
 omega
theorem gap_bd(s:ByteArray)(i:Nat):i≤gapZ s i∧(i≤s.size→gapZ s i≤s.size):=by
 generalize hn:s.size-i=n
 induction n using Nat.strongRecOn generalizing i with
 |ind n ih=>
  by_cases h:i<s.size
  ·cases hb:chars.isBlank (byteZ s i)
   ·by_cases hj:byteZ s i=92∧byteZ s ((i:Int)+1)=10
    ·rw[gap_join h hb hj]
     have hlt:=join_lt hj.2
     have:=ih _ (by omega) (i+2) rfl
     omega
    ·rw[gap_stop h hb hj];omega
   ·rw[gap_blank h hb]
    have:=ih _ (by omega) (i+1) rfl
    omega
  ·rw[gap_out h];omega
def line(n:Int):Bool:=n !=10&&n != -1
theorem cls_line:Cls line:=by unfold Cls;decide
def cmtEnd(s:ByteArray)(i:Int):Int:=runEnd line s i
def wordAt(s:ByteArray)(i:Nat):Int×Int:=
 if chars.nameShape (s.extract i (nameEnd s i).toNat)=true then
  if spell.keyword (s.extract i (nameEnd s i).toNat)=0 then
   if toks.isBuiltin (s.extract i (nameEnd s i).toNat)=true then(8,nameEnd s i)
   else if byteZ s (nameEnd s i)=40 then(7,nameEnd s i)else(6,nameEnd s i)
  else(spell.keyword (s.extract i (nameEnd s i).toNat),nameEnd s i)
 else(0,-1)
def kindAt(s:ByteArray)(i:Nat)(prev:Int):Int×Int:=
 if byteZ s i=10 then(1,(i:Int)+1)
 else if byteZ s i=35 then(2,cmtEnd s i)
 else if chars.isDigit (byteZ s i)=true∨byteZ s i=46 then(3,numEnd s i)
 else if byteZ s i=34 then(4,strEnd s i)
 else if byteZ s i=47∧operand.ends prev=false then(5,ereEnd s i)
 else if chars.isLetter (byteZ s i)=true then wordAt s i
 else((ops.opAt s i).1,(i:Int)+(ops.opAt s i).2)
theorem num_end_bd(s:ByteArray)(i:Nat):numEnd s i= -1∨(i:Int)<numEnd s i∧numEnd s i≤s.size:=by
 by_cases h:0≤numEnd s i
 ·obtain⟨K,E,hK,hE,h1,h2,_⟩:=num_cut h
  right
  omega
 ·left
  unfold numEnd at h⊢
  split at h
  ·split at h
   ·rename_i h1 h2
    rw[if_pos h1,if_pos h2]
   ·have:=run_ge chars.isDigit s i
    have:=run_ge chars.isDigit s (runEnd chars.isDigit s i+1)
    have:=exp_ge s (runEnd chars.isDigit s (runEnd chars.isDigit s i+1))
    omega
  ·split at h
   ·rename_i h1 h2
    rw[if_neg h1,if_pos h2]
   ·have:=run_ge chars.isDigit s i
    have:=exp_ge s (runEnd chars.isDigit s i)
    omega
theorem qEnd_bd(s:ByteArray)(g:Int)(j:Nat):qEnd s g j= -1∨(j:Int)<qEnd s g j∧qEnd s g j≤s.size:=by
 by_cases h:0≤qEnd s g j
 ·exact .inr (q_props h)
 ·left
  generalize hn:s.size-j=n
  induction n using Nat.strongRecOn generalizing j with
  |ind n ih=>
   by_cases hj:j<s.size
   ·by_cases h1:(s[j].toNat:Int)=g
    ·rw[q_sign hj h1]at h;omega
    ·by_cases h2:(s[j].toNat:Int)=10
     ·exact q_line hj h1 h2
     ·by_cases h3:(s[j].toNat:Int)=92
      ·by_cases h4:byteZ s (j+1)=10
       ·exact q_esc_line hj h1 h3 h4
       ·rw[q_esc hj h1 h3 h4]at h⊢
        exact ih _ (by omega) _ h rfl
      ·rw[q_next hj h1 h2 h3]at h⊢
       exact ih _ (by omega) _ h rfl
   ·exact q_end hj
theorem quoted_bd(s:ByteArray)(i:Nat)(g:Int):scan.quoted s i g= -1∨(i:Int)+1<scan.quoted s i g∧scan.quoted s i g≤s.size:=by
 unfold scan.quoted
 split
 ·rw[show((i:Int)+1).toNat=i+1 by omega]
  rcases qEnd_bd s g (i+1)with h|h
  ·exact .inl h
  ·right;omega
 ·exact .inl rfl
theorem str_end_bd(s:ByteArray)(i:Nat):strEnd s i= -1∨(i:Int)<strEnd s i∧strEnd s i≤s.size:=by
 have:=quoted_bd s i 34
 unfold strEnd
 omega
theorem ere_end_bd(s:ByteArray)(i:Nat):ereEnd s i= -1∨(i:Int)<ereEnd s i∧ereEnd s i≤s.size:=by
 have:=quoted_bd s i 47
 unfold ereEnd
 split
 ·exact .inl rfl
 ·omega
theorem name_end_bd{s:ByteArray}{i:Nat}(h:chars.isLetter (byteZ s i)=true):(i:Int)<nameEnd s i∧nameEnd s i≤s.size:=by
 have h0:0≤nameEnd s i:=by
  unfold nameEnd
  rw[if_pos h]
  have:=run_ge chars.isWord s i
  omega
 obtain⟨K,E,hK,hE,h1,h2,_⟩:=name_props h0
 omega
theorem opTo_facts(s:ByteArray)(i:Nat)(hi:i≤s.size):∀k,k≤39→ops.opTo s i k=(0,0)∨(30≤(ops.opTo s i k).1∧(ops.opTo s i k).1≤68∧1≤(ops.opTo s i k).2∧(i:Int)+(ops.opTo s i k).2≤s.size)
 |0,_=> .inl rfl
 |k+1,h=>by
  have hb:=ops.sign_bd k (by omega)
  rw[ops.opTo]
  split
  ·rename_i hc
   right
   have h1:=hc.1
   rw[ops.here_cut hi]at h1
   simp only[Bool.and_eq_true,decide_eq_true_eq]at h1
   refine⟨?_, ?_, ?_, ?_⟩<;>simp only<;>omega
  ·exact opTo_facts s i hi k (by omega)
theorem op_facts(s:ByteArray)(i:Nat)(hi:i≤s.size):ops.opAt s i=(0,0)∨(30≤(ops.opAt s i).1∧(ops.opAt s i).1≤68∧1≤(ops.opAt s i).2∧(i:Int)+(ops.opAt s i).2≤s.size):=
 opTo_facts s i hi 39 (Nat.le_refl _)
theorem kind_facts(s:ByteArray)(i:Nat)(prev:Int)(hi:i<s.size):((kindAt s i prev).2≤i∧ -1≤(kindAt s i prev).2)∨(1≤(kindAt s i prev).1∧(kindAt s i prev).1≤68∧(i:Int)<(kindAt s i prev).2∧(kindAt s i prev).2≤s.size):=by
 unfold kindAt
 split
 ·right;simp only;omega
 split
 ·rename_i h1 h2
  right
  have hl:line (byteZ s i)=true:=by rw[h2];decide
  have:=run_lt cls_line hl
  have:=run_le line s i (by omega)
  unfold cmtEnd
  simp only
  omega
 split
 ·have:=num_end_bd s i
  simp only
  omega
 split
 ·have:=str_end_bd s i
  simp only
  omega
 split
 ·have:=ere_end_bd s i
  simp only
  omega
 split
 ·rename_i hl
  have hb:=name_end_bd hl
  unfold wordAt
  split
  ·split
   ·split
    ·right;simp only;omega
    split
    ·right;simp only;omega
    ·right;simp only;omega
   ·rename_i hk
    have:=spell.kw_bd (s.extract i (nameEnd s i).toNat)
    right;simp only;omega
  ·left;simp only;omega
 ·rcases op_facts s i (by omega)with h|h
  ·left
   rw[h]
   simp only
   omega
  ·right
   simp only
   omega
def lexZ(s:ByteArray)(i:Nat)(prev:Int):Nat⊕List Tk:=
 if h:gapZ s i<s.size then
  if h2:(gapZ s i:Int)<(kindAt s (gapZ s i) prev).2 then
   match lexZ s (kindAt s (gapZ s i) prev).2.toNat (kindAt s (gapZ s i) prev).1 with
   | .inl f=> .inl f
   | .inr l=> .inr (⟨(kindAt s (gapZ s i) prev).1,s.extract (gapZ s i) (kindAt s (gapZ s i) prev).2.toNat,gapZ s i⟩::l)
  else .inl (gapZ s i)
 else .inr []
termination_by s.size-i
decreasing_by
 have:=(gap_bd s i).1
 omega
def push(d:List Tk):Nat⊕List Tk→Nat⊕List Tk
 | .inl f=> .inl f
 | .inr l=> .inr (d++l)
theorem push_push(d:List Tk)(t:Tk)(x:Nat⊕List Tk):push (d++[t]) x=push d (push [t] x):=by
 cases x<;>simp[push]
theorem push_nil(x:Nat⊕List Tk):push [] x=x:=by cases x<;>simp[push]
theorem lex_end{s:ByteArray}{i:Nat}{prev:Int}(h:¬gapZ s i<s.size):lexZ s i prev= .inr []:=by
 rw[lexZ,dif_neg h]
theorem lex_none{s:ByteArray}{i:Nat}{prev:Int}(h:gapZ s i<s.size)(h2:(kindAt s (gapZ s i) prev).2≤gapZ s i):lexZ s i prev= .inl (gapZ s i):=by
 rw[lexZ,dif_pos h,dif_neg (by omega)]
theorem lex_step{s:ByteArray}{i:Nat}{prev k:Int}{g e:Nat}(hg:gapZ s i=g)(h:g<s.size)(hk:kindAt s g prev=(k,(e:Int)))(h2:g<e):
  lexZ s i prev=push [⟨k,s.extract g e,g⟩] (lexZ s e k):=by
 subst hg
 rw[lexZ,dif_pos h,dif_pos (by rw[hk];simp only;omega),hk]
 simp only[Int.toNat_natCast]
 cases lexZ s e k<;>simp[push]
theorem gap_gap(s:ByteArray)(i:Nat):gapZ s (gapZ s i)=gapZ s i:=by
 generalize hn:s.size-i=n
 induction n using Nat.strongRecOn generalizing i with
 |ind n ih=>
  by_cases h:i<s.size
  ·cases hb:chars.isBlank (byteZ s i)
   ·by_cases hj:byteZ s i=92∧byteZ s ((i:Int)+1)=10
    ·rw[gap_join h hb hj]
     have hlt:=join_lt hj.2
     exact ih _ (by omega) (i+2) rfl
    ·rw[gap_stop h hb hj,gap_stop h hb hj]
   ·rw[gap_blank h hb]
    exact ih _ (by omega) (i+1) rfl
  ·rw[gap_out h,gap_out h]
theorem lex_gap{s:ByteArray}{i j:Nat}{prev:Int}(h:gapZ s i=gapZ s j):lexZ s i prev=lexZ s j prev:=by
 rw[lexZ,lexZ.eq_1 s j,h]
def lexF(s:ByteArray):List Tk×(Int×Int):=
 if 3000<s.size then([],(1,0))else match lexZ s 0 0 with
 | .inl f=>([],(2,(f:Int)))
 | .inr l=>(l,(0,0))
end Go.Proofs.YtebjmdpkobhcbaaGreatDoor.lex

namespace Go.Proofs.YtebjmdpkobhcbaaGreatDoor.lex
open Lib (hid)
open Go.ChangeShapes Go.WideShapes Go.ChangeAt Go.RowKit
open tk scan
open spell (Held)
set_option linter.unusedVariables false
theorem impl_isBlank(n:Int)(w:World):Calls Tryz.prog 123 #[.int .i64 n] w fun e w'=>e= .returned (.bool (chars.isBlank n))∧w=w':=chars.impl_blank n w
theorem join_prefix{s:ByteArray}{A:Nat}(hA:A≤s.size):Lib.hasPrefix (s.extract A s.size).data.toList [92,10]=decide (byteZ s A=92∧byteZ s ((A:Int)+1)=10):=by
 rw[ops.rest_data]
 have g:∀j,(s.data.toList.drop A)[j]? =s.data.toList[A+j]? :=fun j=>by rw[List.getElem?_drop]
 have hb:∀j,A+j<s.size→s.data.toList[A+j]? =some (s.data.toList.getD (A+j) 0):=fun j hj=>by
  have:A+j<s.data.toList.length:=hj
  rw[List.getD_eq_getElem?_getD,List.getElem?_eq_getElem this];rfl
 have hz:∀j,A+j<s.size→byteZ s ((A:Int)+(j:Int))=((s.data.toList.getD (A+j) 0).toNat:Int):=fun j hj=>by
  unfold byteZ
  rw[if_pos (by omega),show((A:Int)+(j:Int)).toNat=A+j by omega]
 by_cases h1:A+1<s.size
 ·have e0:=g 0
  have e1:=g 1
  rw[hb 0 (by omega)]at e0
  rw[hb 1 h1]at e1
  have z0:=hz 0 (by omega)
  have z1:=hz 1 h1
  simp only[Int.natCast_zero,Int.add_zero]at z0
  rw[show((A:Int)+((1:Nat):Int))=(A:Int)+1 by omega]at z1
  rw[z0,z1]
  generalize s.data.toList.getD (A+0) 0=x0 at*
  generalize s.data.toList.getD (A+1) 0=x1 at*
  match hl:s.data.toList.drop A with
  |[]=>rw[hl]at e0;simp at e0
  |[_]=>rw[hl]at e1;simp at e1
  |a::b::t=>
   rw[hl]at e0 e1
   simp at e0 e1
   subst e0 e1
   unfold Lib.hasPrefix
   rw[Bool.eq_iff_iff]
   simp only[List.isPrefixOf,Bool.and_true,Bool.and_eq_true,beq_iff_eq,decide_eq_true_eq]
   constructor
   ·rintro⟨h,h'⟩;subst h h';exact⟨rfl,rfl⟩
   ·rintro⟨h,h'⟩
    exact⟨(UInt8.toNat_inj.1 (by show a.toNat=92;omega)).symm,(UInt8.toNat_inj.1 (by show b.toNat=10;omega)).symm⟩
 ·have hno:¬(byteZ s A=92∧byteZ s ((A:Int)+1)=10):=fun h=>h1 (join_lt h.2)
  rw[decide_eq_false hno]
  have hlen:(s.data.toList.drop A).length≤1:=by
   rw[List.length_drop]
   have:s.data.toList.length=s.size:=rfl
   omega
  match hl:s.data.toList.drop A with
  |[]=>rfl
  |[a]=>unfold Lib.hasPrefix;simp[List.isPrefixOf]
  |a::b::t=>rw[hl]at hlen;simp at hlen
def RelGap(s:ByteArray)(A:Nat)(v:Value):Prop:=∃J:Nat,v= .int .i64 (J:Int)∧J≤s.size∧gapZ s J=gapZ s A
set_option maxHeartbeats 800000 in
theorem impl_gap(s:ByteArray)(A:Nat)(w:World)(hs:s.size≤1048576)(hA:A≤s.size):
  Calls Tryz.prog 73 #[.string s,.int .i64 (A:Int)] w fun e w'=>e= .returned (.int .i64 (gapZ s A:Int))∧w=w':=by
 go_enter Tryz.func73,Tryz.ntmps73
 go_wp2
 go_loop [1] (fun j=>RelGap s A j) (fun j=>s.size-(intOf j).toNat)
 case atStart=>exact⟨A,rfl,hA,rfl⟩
 case round=>
  obtain⟨J,rfl,hJ,hg⟩:=hrel
  have HG:=hid hg
  clear hg
  have f:(J:Int)≤(s.size:Int):=by omega
  cases hb:chars.isBlank (byteZ s J)
  ·by_cases hj:byteZ s J=92∧byteZ s ((J:Int)+1)=10
   ·have hlt:=join_lt hj.2
    have HP:=hid (show Lib.hasPrefix (s.extract J s.size).data.toList [92,10]=true by rw[join_prefix hJ,decide_eq_true hj])
    have HS:=hid ((gap_join (by omega) hb hj).symm.trans HG.out)
    clear hj
    go_wp2_with (first|(go_at_call 124;refine(impl_byte s _ _ hs).mono ?_;rintro e w' ⟨rfl,rfl⟩)|(go_at_call 123;refine(impl_isBlank _ _).mono ?_;rintro e w' ⟨rfl,rfl⟩)|(go_at_call 125;refine(ops.prefix_any _ _ _).mono ?_;rintro e w' ⟨he,rfl⟩;rw[HP.out]at he;subst he))
    go_round
    case rel=>exact⟨J+2,by go_num,by omega,HS.out⟩
    case measure=>simp[intOf];omega
   ·have HP:=hid (show Lib.hasPrefix (s.extract J s.size).data.toList [92,10]=false by rw[join_prefix hJ,decide_eq_false hj])
    have HS:=hid (show gapZ s A=J by
     rw[←HG.out]
     by_cases hlt:J<s.size
     ·exact gap_stop hlt hb hj
     ·exact gap_out hlt)
    clear hj
    go_wp2_with (first|(go_at_call 124;refine(impl_byte s _ _ hs).mono ?_;rintro e w' ⟨rfl,rfl⟩)|(go_at_call 123;refine(impl_isBlank _ _).mono ?_;rintro e w' ⟨rfl,rfl⟩)|(go_at_call 125;refine(ops.prefix_any _ _ _).mono ?_;rintro e w' ⟨he,rfl⟩;rw[HP.out]at he;subst he))
    go_ret
    exact⟨by rw[HS.out];rfl,rfl⟩
  ·have hlt:J<s.size:=by
    have:=byte_range (s:=s) (i:=J) (by intro e;rw[e]at hb;revert hb;decide)
    omega
   have HS:=hid ((gap_blank hlt hb).symm.trans HG.out)
   go_wp2_with (first|(go_at_call 124;refine(impl_byte s _ _ hs).mono ?_;rintro e w' ⟨rfl,rfl⟩)|(go_at_call 123;refine(impl_isBlank _ _).mono ?_;rintro e w' ⟨rfl,rfl⟩))
   go_round
   case rel=>exact⟨J+1,by go_num,by omega,HS.out⟩
   case measure=>simp[intOf];omega
theorem cmt_run{s:ByteArray}{A:Nat}(hA:A≤s.size)(n:Nat)(hn:A+n≤s.size)(hx:∀j,j<n→byteZ s ((A:Int)+(j:Int))≠10):runEnd line s A=runEnd line s ((A:Int)+(n:Int)):=by
 induction n with
 |zero=>simp
 |succ n ih=>
  rw[ih (by omega) (fun j hj=>hx j (by omega))]
  have hb:=hx n (by omega)
  have hz:byteZ s ((A:Int)+(n:Int))=(s[A+n].toNat:Int):=by
   have:=byte_in (s:=s) (I:=A+n) (by omega)
   rw[←this];congr 1
  rw[run_step cls_line (by unfold line;rw[hz]at hb⊢;simp[hb])]
  congr 1
theorem cmt_index{s:ByteArray}{A:Nat}(hA:A≤s.size):cmtEnd s A=if 0≤Lib.indexByte (s.extract A s.size).data.toList 10 then(A:Int)+Lib.indexByte (s.extract A s.size).data.toList 10 else(s.size:Int):=by
 rw[ops.rest_data]
 have g:∀j,(s.data.toList.drop A)[j]? =s.data.toList[A+j]? :=fun j=>by rw[List.getElem?_drop]
 have hz:∀j,A+j<s.size→∀b,s.data.toList[A+j]? =some b→byteZ s ((A:Int)+(j:Int))=(b.toNat:Int):=fun j hj b hb=>by
  unfold byteZ
  rw[if_pos (by omega),show((A:Int)+(j:Int)).toNat=A+j by omega,List.getD_eq_getElem?_getD,hb]
  rfl
 have hsz:s.data.toList.length=s.size:=rfl
 split
 ·rename_i h0
  obtain⟨o,ho⟩:∃o:Nat,Lib.indexByte (s.data.toList.drop A) 10=o:=⟨(Lib.indexByte (s.data.toList.drop A) 10).toNat,by omega⟩
  obtain⟨h1,h2⟩:=Lib.indexByte_some ho
  rw[ho]
  have hlt:A+o<s.size:=by
   rcases Nat.lt_or_ge (A+o) s.size with h|h
   ·exact h
   ·rw[g,List.getElem?_eq_none (by omega)]at h1;cases h1
  unfold cmtEnd
  rw[cmt_run hA o (by omega)]
  ·rw[g]at h1
   have:=hz o hlt 10 h1
   rw[run_stop (by rw[this];decide)]
  ·intro j hj
   have f:A+j<s.data.toList.length:=by omega
   have h3:=h2 j hj
   rw[g,List.getElem?_eq_getElem f]at h3
   rw[hz j (by omega) _ (List.getElem?_eq_getElem f)]
   intro e
   exact h3 (congrArg some (UInt8.toNat_inj.1 (by show(s.data.toList[A+j]).toNat=10;omega)))
 ·rename_i h0
  have hge:=Lib.indexByte_ge (s.data.toList.drop A) 10
  have hn:=Lib.indexByte_none (l:=s.data.toList.drop A) (c:=10) (by omega)
  unfold cmtEnd
  rw[cmt_run hA (s.size-A) (by omega),run_out (.inr (by omega))]
  ·omega
  ·intro j hj
   have f:A+j<s.data.toList.length:=by omega
   have h3:=hn j
   rw[g,List.getElem?_eq_getElem f]at h3
   rw[hz j (by omega) _ (List.getElem?_eq_getElem f)]
   intro e
   exact h3 (congrArg some (UInt8.toNat_inj.1 (by show(s.data.toList[A+j]).toNat=10;omega)))
theorem index_any(s:ByteArray)(w:World):Calls Tryz.prog 191 #[.string s,.int .u8 10] w fun e w'=>e= .returned (.int .i64 (Lib.indexByte s.data.toList 10))∧w=w':=
 (Tryz.strings_IndexByte s 10 w).mono fun _ _ h=>⟨h.1,h.2.symm⟩
theorem impl_comment(s:ByteArray)(A:Nat)(w:World)(hs:s.size≤1048576)(hA:A≤s.size):
  Calls Tryz.prog 126 #[.string s,.int .i64 (A:Int)] w fun e w'=>e= .returned (.int .i64 (cmtEnd s A))∧w=w':=by
 have hc:=cmt_index hA
 have hle:=run_le line s A (by omega)
 have f:(A:Int)≤(s.size:Int):=by omega
 obtain⟨o,ho⟩:∃o,o=Lib.indexByte (s.extract A s.size).data.toList 10:=⟨_,rfl⟩
 rw[←ho]at hc
 have HO:=hid ho
 clear ho
 unfold cmtEnd at hc⊢
 obtain⟨c,hcc⟩:∃c,c=runEnd line s A:=⟨_,rfl⟩
 rw[←hcc]at hc hle⊢
 clear hcc
 by_cases h0:0≤o
 ·rw[if_pos h0]at hc
  have HC:=hid hc
  have hb:(A:Int)+o≤1048576:=by omega
  clear hc hle
  go_enter Tryz.func126,Tryz.ntmps126
  go_wp2_with (go_at_call 191;refine(index_any _ _).mono ?_;rintro e w' ⟨he,rfl⟩;rw[←HO.out]at he;subst he)
  go_ret
  exact⟨by rw[HC.out];rfl,rfl⟩
 ·rw[if_neg h0]at hc
  have HC:=hid hc
  have hb:o<0:=by omega
  clear hc hle h0
  go_enter Tryz.func126,Tryz.ntmps126
  go_wp2_with (go_at_call 191;refine(index_any _ _).mono ?_;rintro e w' ⟨he,rfl⟩;rw[←HO.out]at he;subst he)
  go_ret
  exact⟨by rw[HC.out];rfl,rfl⟩
end Go.Proofs.YtebjmdpkobhcbaaGreatDoor.lex

namespace Go.Proofs.YtebjmdpkobhcbaaGreatDoor.lex
open Lib (hid)
open Go.ChangeShapes Go.WideShapes Go.ChangeAt Go.RowKit
open tk scan
open spell (Held)
set_option linter.unusedVariables false
theorem eqI{x c:Int}(h:x=c):(x==c)=true∧(x !=c)=false:=by subst h;simp
theorem neI{x c:Int}(h:¬x=c):(x==c)=false∧(x !=c)=true:=by simp[h]
set_option maxHeartbeats 800000 in
theorem impl_word(s:ByteArray)(A:Nat)(w:World)(hs:s.size≤1048576)(hl:chars.isLetter (byteZ s A)=true)(hh:Held w):
  Calls Tryz.prog 133 #[.string s,.int .i64 (A:Int)] w fun e w'=>e= .returned (.tuple #[.int .i64 (wordAt s A).1,.int .i64 (wordAt s A).2])∧w=w':=by
 have HH:=hid hh
 have hb:=name_end_bd hl
 obtain⟨E,hE⟩:∃E:Nat,nameEnd s A=E:=⟨(nameEnd s A).toNat,by omega⟩
 rw[hE]at hb
 obtain⟨x,hx⟩:∃x,x=s.extract A E:=⟨_,rfl⟩
 have HX:=hid hx
 have hxs:x.size≤1048576:=by rw[hx,cut_size (by omega)];omega
 have HW:=hid (show wordAt s A=if chars.nameShape x=true then(if spell.keyword x=0 then(if toks.isBuiltin x=true then(8,(E:Int))else if byteZ s (E:Int)=40 then(7,(E:Int))else(6,(E:Int)))else(spell.keyword x,(E:Int)))else(0,-1) by
  unfold wordAt
  rw[hE,Int.toNat_natCast,←hx])
 have HE:=hid hE
 have hAE:(A:Int)≤(E:Int):=by omega
 have hEs:(E:Int)≤(s.size:Int):=by omega
 clear hx hE hh hl
 cases h1:chars.nameShape x
 ·have HR:=hid (show wordAt s A=(0,-1) by rw[HW.out,h1];rfl)
  go_enter Tryz.func133,Tryz.ntmps133
  go_wp2_with fail
  refine(impl_nameEnd s _ _ hs).mono ?_
  rintro e w1 ⟨he,rfl⟩
  rw[HE.out]at he
  subst he
  go_wp2_with fail
  rw[←HX.out]
  refine(spell.impl_keyword x _ HH.out).mono ?_
  rintro e w2 ⟨rfl,rfl⟩
  go_wp2_with fail
  refine(chars.impl_shape x _ hxs).mono ?_
  rintro e w3 ⟨rfl,rfl⟩
  go_wp2
  go_ret2
  exact⟨by rw[HR.out];rfl,rfl⟩
 by_cases h2:spell.keyword x=0
 ·obtain⟨k1,k2⟩:=eqI h2
  have HK:=hid h2
  cases h3:toks.isBuiltin x
  ·by_cases h4:byteZ s (E:Int)=40
   ·have HR:=hid (show wordAt s A=(7,(E:Int)) by rw[HW.out,if_pos h1,if_pos h2,if_neg (by rw[h3];decide),if_pos h4])
    obtain⟨p1,p2⟩:=eqI h4
    clear h2 h4
    go_enter Tryz.func133,Tryz.ntmps133
    go_wp2_with fail
    refine(impl_nameEnd s _ _ hs).mono ?_
    rintro e w1 ⟨he,rfl⟩
    rw[HE.out]at he
    subst he
    go_wp2_with fail
    rw[←HX.out]
    refine(spell.impl_keyword x _ HH.out).mono ?_
    rintro e w2 ⟨rfl,rfl⟩
    go_wp2_with fail
    refine(chars.impl_shape x _ hxs).mono ?_
    rintro e w3 ⟨rfl,rfl⟩
    go_wp2_with fail
    refine(toks.impl_builtin x _).mono ?_
    rintro e w4 ⟨rfl,rfl⟩
    go_wp2_with fail
    refine(impl_byte s _ _ hs).mono ?_
    rintro e w5 ⟨rfl,rfl⟩
    go_wp2
    go_ret2
    exact⟨by rw[HR.out];rfl,rfl⟩
   ·have HR:=hid (show wordAt s A=(6,(E:Int)) by rw[HW.out,if_pos h1,if_pos h2,if_neg (by rw[h3];decide),if_neg h4])
    obtain⟨p1,p2⟩:=neI h4
    clear h2 h4
    go_enter Tryz.func133,Tryz.ntmps133
    go_wp2_with fail
    refine(impl_nameEnd s _ _ hs).mono ?_
    rintro e w1 ⟨he,rfl⟩
    rw[HE.out]at he
    subst he
    go_wp2_with fail
    rw[←HX.out]
    refine(spell.impl_keyword x _ HH.out).mono ?_
    rintro e w2 ⟨rfl,rfl⟩
    go_wp2_with fail
    refine(chars.impl_shape x _ hxs).mono ?_
    rintro e w3 ⟨rfl,rfl⟩
    go_wp2_with fail
    refine(toks.impl_builtin x _).mono ?_
    rintro e w4 ⟨rfl,rfl⟩
    go_wp2_with fail
    refine(impl_byte s _ _ hs).mono ?_
    rintro e w5 ⟨rfl,rfl⟩
    go_wp2
    go_ret2
    exact⟨by rw[HR.out];rfl,rfl⟩
  ·have HR:=hid (show wordAt s A=(8,(E:Int)) by rw[HW.out,if_pos h1,if_pos h2,if_pos h3])
   clear h2
   go_enter Tryz.func133,Tryz.ntmps133
   go_wp2_with fail
   refine(impl_nameEnd s _ _ hs).mono ?_
   rintro e w1 ⟨he,rfl⟩
   rw[HE.out]at he
   subst he
   go_wp2_with fail
   rw[←HX.out]
   refine(spell.impl_keyword x _ HH.out).mono ?_
   rintro e w2 ⟨rfl,rfl⟩
   go_wp2_with fail
   refine(chars.impl_shape x _ hxs).mono ?_
   rintro e w3 ⟨rfl,rfl⟩
   go_wp2_with fail
   refine(toks.impl_builtin x _).mono ?_
   rintro e w4 ⟨rfl,rfl⟩
   go_wp2
   go_ret2
   exact⟨by rw[HR.out];rfl,rfl⟩
 ·have HR:=hid (show wordAt s A=(spell.keyword x,(E:Int)) by rw[HW.out,if_pos h1,if_neg h2])
  obtain⟨k1,k2⟩:=neI h2
  clear h2
  go_enter Tryz.func133,Tryz.ntmps133
  go_wp2_with fail
  refine(impl_nameEnd s _ _ hs).mono ?_
  rintro e w1 ⟨he,rfl⟩
  rw[HE.out]at he
  subst he
  go_wp2_with fail
  rw[←HX.out]
  refine(spell.impl_keyword x _ HH.out).mono ?_
  rintro e w2 ⟨rfl,rfl⟩
  go_wp2_with fail
  refine(chars.impl_shape x _ hxs).mono ?_
  rintro e w3 ⟨rfl,rfl⟩
  go_wp2
  go_ret2
  exact⟨by rw[HR.out];rfl,rfl⟩
set_option maxHeartbeats 1600000 in
theorem impl_kind(s:ByteArray)(A:Nat)(prev:Int)(w:World)(hs:s.size≤1048576)(hA:A<s.size)(hh:Held w):
  Calls Tryz.prog 74 #[.string s,.int .i64 (A:Int),.int .i64 prev] w fun e w'=>e= .returned (.tuple #[.int .i64 (kindAt s A prev).1,.int .i64 (kindAt s A prev).2])∧w=w':=by
 have HH:=hid hh
 clear hh
 by_cases h1:byteZ s A=10
 ·have HR:=hid (show kindAt s A prev=(1,(A:Int)+1) by unfold kindAt;rw[if_pos h1])
  obtain⟨p1,-⟩:=eqI h1
  clear h1
  go_enter Tryz.func74,Tryz.ntmps74
  go_wp2_with (go_at_call 124;refine(impl_byte s _ _ hs).mono ?_;rintro e w' ⟨rfl,rfl⟩)
  go_ret2
  exact⟨by rw[HR.out];rfl,rfl⟩
 obtain⟨p1,-⟩:=neI h1
 by_cases h2:byteZ s A=35
 ·have HR:=hid (show kindAt s A prev=(2,cmtEnd s A) by unfold kindAt;rw[if_neg h1,if_pos h2])
  obtain⟨p2,-⟩:=eqI h2
  clear h1 h2
  go_enter Tryz.func74,Tryz.ntmps74
  go_wp2_with (first|(go_at_call 124;refine(impl_byte s _ _ hs).mono ?_;rintro e w' ⟨rfl,rfl⟩)|(go_at_call 126;refine(impl_comment s A _ hs (Nat.le_of_lt hA)).mono ?_;rintro e w' ⟨rfl,rfl⟩))
  go_ret2
  exact⟨by rw[HR.out];rfl,rfl⟩
 obtain⟨p2,-⟩:=neI h2
 by_cases h3:chars.isDigit (byteZ s A)=true
 ·have HR:=hid (show kindAt s A prev=(3,numEnd s A) by unfold kindAt;rw[if_neg h1,if_neg h2,if_pos (.inl h3)])
  clear h1 h2
  go_enter Tryz.func74,Tryz.ntmps74
  go_wp2_with (first|(go_at_call 124;refine(impl_byte s _ _ hs).mono ?_;rintro e w' ⟨rfl,rfl⟩)|(go_at_call 127;refine(chars.impl_digit _ _).mono ?_;rintro e w' ⟨rfl,rfl⟩)|(go_at_call 128;refine(impl_num s _ _ hs).mono ?_;rintro e w' ⟨rfl,rfl⟩))
  go_ret2
  exact⟨by rw[HR.out];rfl,rfl⟩
 have o:chars.isDigit (byteZ s A)=false:=by simpa using h3
 by_cases h4:byteZ s A=46
 ·have HR:=hid (show kindAt s A prev=(3,numEnd s A) by unfold kindAt;rw[if_neg h1,if_neg h2,if_pos (.inr h4)])
  obtain⟨p4,-⟩:=eqI h4
  clear h1 h2 h3 h4
  go_enter Tryz.func74,Tryz.ntmps74
  go_wp2_with (first|(go_at_call 124;refine(impl_byte s _ _ hs).mono ?_;rintro e w' ⟨rfl,rfl⟩)|(go_at_call 127;refine(chars.impl_digit _ _).mono ?_;rintro e w' ⟨rfl,rfl⟩)|(go_at_call 128;refine(impl_num s _ _ hs).mono ?_;rintro e w' ⟨rfl,rfl⟩))
  go_ret2
  exact⟨by rw[HR.out];rfl,rfl⟩
 obtain⟨p4,-⟩:=neI h4
 have f:¬(chars.isDigit (byteZ s A)=true∨byteZ s A=46):=fun h=>h.elim h3 h4
 by_cases h5:byteZ s A=34
 ·have HR:=hid (show kindAt s A prev=(4,strEnd s A) by unfold kindAt;rw[if_neg h1,if_neg h2,if_neg f,if_pos h5])
  obtain⟨p5,-⟩:=eqI h5
  clear h1 h2 h3 h4 h5 f
  go_enter Tryz.func74,Tryz.ntmps74
  go_wp2_with (first|(go_at_call 124;refine(impl_byte s _ _ hs).mono ?_;rintro e w' ⟨rfl,rfl⟩)|(go_at_call 127;refine(chars.impl_digit _ _).mono ?_;rintro e w' ⟨rfl,rfl⟩)|(go_at_call 129;refine(impl_str s _ _ hs).mono ?_;rintro e w' ⟨rfl,rfl⟩))
  go_ret2
  exact⟨by rw[HR.out];rfl,rfl⟩
 obtain⟨p5,-⟩:=neI h5
 by_cases h6:byteZ s A=47∧operand.ends prev=false
 ·have HR:=hid (show kindAt s A prev=(5,ereEnd s A) by unfold kindAt;rw[if_neg h1,if_neg h2,if_neg f,if_neg h5,if_pos h6])
  obtain⟨p6,-⟩:=eqI h6.1
  have p7:=h6.2
  clear h1 h2 h3 h4 h5 f h6
  go_enter Tryz.func74,Tryz.ntmps74
  go_wp2_with (first|(go_at_call 124;refine(impl_byte s _ _ hs).mono ?_;rintro e w' ⟨rfl,rfl⟩)|(go_at_call 127;refine(chars.impl_digit _ _).mono ?_;rintro e w' ⟨rfl,rfl⟩)|(go_at_call 130;refine(operand.impl_ends _ _).mono ?_;rintro e w' ⟨rfl,rfl⟩)|(go_at_call 131;refine(impl_ere s _ _ hs).mono ?_;rintro e w' ⟨rfl,rfl⟩))
  go_ret2
  exact⟨by rw[HR.out];rfl,rfl⟩
 have H6:((byteZ s A==47)=false)∨((byteZ s A==47)=true∧operand.ends prev=true):=by
  by_cases h:byteZ s A=47
  ·right
   refine⟨(eqI h).1, ?_⟩
   cases he:operand.ends prev
   ·exact absurd ⟨h,he⟩ h6
   ·rfl
  ·exact .inl (neI h).1
 by_cases h7:chars.isLetter (byteZ s A)=true
 ·have HR:=hid (show kindAt s A prev=wordAt s A by unfold kindAt;rw[if_neg h1,if_neg h2,if_neg f,if_neg h5,if_neg h6,if_pos h7])
  clear h1 h2 h3 h4 h5 f h6
  rcases H6 with p6|⟨p6,p7⟩
  all_goals
   go_enter Tryz.func74,Tryz.ntmps74
   go_wp2_with (first|(go_at_call 124;refine(impl_byte s _ _ hs).mono ?_;rintro e w' ⟨rfl,rfl⟩)|(go_at_call 127;refine(chars.impl_digit _ _).mono ?_;rintro e w' ⟨rfl,rfl⟩)|(go_at_call 130;refine(operand.impl_ends _ _).mono ?_;rintro e w' ⟨rfl,rfl⟩)|(go_at_call 132;refine(chars.impl_letter _ _).mono ?_;rintro e w' ⟨rfl,rfl⟩)|(go_at_call 133;refine(impl_word s A _ hs h7 HH.out).mono ?_;rintro e w' ⟨rfl,rfl⟩))
   go_ret2
   exact⟨by rw[HR.out];rfl,rfl⟩
 ·have m:chars.isLetter (byteZ s A)=false:=by simpa using h7
  have j:=show kindAt s A prev=((ops.opAt s A).1,(A:Int)+(ops.opAt s A).2) by unfold kindAt;rw[if_neg h1,if_neg h2,if_neg f,if_neg h5,if_neg h6,if_neg h7]
  have hf:=op_facts s A (by omega)
  obtain⟨P,hP⟩:∃P,P=ops.opAt s A:=⟨_,rfl⟩
  rw[←hP]at j hf
  have HP:=hid hP
  have hPb:0≤P.2∧P.2≤1048576:=by
   rcases hf with h|h
   ·rw[h];decide
   ·omega
  have HR:=hid j
  clear h1 h2 h3 h4 h5 f h6 h7 j hP hf
  rcases H6 with p6|⟨p6,p7⟩
  all_goals
   go_enter Tryz.func74,Tryz.ntmps74
   go_wp2_with (first|(go_at_call 124;refine(impl_byte s _ _ hs).mono ?_;rintro e w' ⟨rfl,rfl⟩)|(go_at_call 127;refine(chars.impl_digit _ _).mono ?_;rintro e w' ⟨rfl,rfl⟩)|(go_at_call 130;refine(operand.impl_ends _ _).mono ?_;rintro e w' ⟨rfl,rfl⟩)|(go_at_call 132;refine(chars.impl_letter _ _).mono ?_;rintro e w' ⟨rfl,rfl⟩)|(go_at_call 134;refine(ops.impl_op s _ _ hs HH.out).mono ?_;rintro e w' ⟨he,rfl⟩;rw[←HP.out]at he;subst he))
   go_ret2
   exact⟨by rw[HR.out];rfl,rfl⟩
end Go.Proofs.YtebjmdpkobhcbaaGreatDoor.lex

namespace Go.Proofs.YtebjmdpkobhcbaaGreatDoor.lex
open Lib (hid)
open Go.ChangeShapes Go.WideShapes Go.ChangeAt Go.RowKit
open tk scan
set_option linter.unusedVariables false
def wordK(s x:ByteArray)(E:Nat):Int:=if spell.keyword x=0 then(if toks.isBuiltin x=true then 8 else if byteZ s (E:Int)=40 then 7 else 6)else spell.keyword x
def B3(g:Nat)(k a:Int)(x:ByteArray)(w:World):Prop:=w.heap[g]? =some (.cells #[.int .i64 k,.string x,.int .i64 a] 86 (0,0))
theorem B3.lt{g:Nat}{k a:Int}{x:ByteArray}{w:World}(h:B3 g k a x w):g<w.heap.size:=by
 rcases Nat.lt_or_ge g w.heap.size with h'|h'
 ·exact h'
 ·unfold B3 at h;rw[Array.getElem?_eq_none h']at h;cases h
theorem B3.keep{B g:Nat}{k a:Int}{x:ByteArray}{w w':World}(h:B3 g k a x w)(hb:Below B w w')(hg:g<B):B3 g k a x w':=(hb.block g hg).trans h
theorem B3.c{g:Nat}{k a:Int}{x:ByteArray}{w:World}(h:B3 g k a x w):w.cell? ⟨g,0,none⟩=some (.int .i64 k)∧w.cell? ⟨g,1,none⟩=some (.string x)∧w.cell? ⟨g,2,none⟩=some (.int .i64 a):=
 ⟨by rw[cell_of_row w g 0 _ _ _ h];rfl,by rw[cell_of_row w g 1 _ _ _ h];rfl,by rw[cell_of_row w g 2 _ _ _ h];rfl⟩
theorem B3.f{g:Nat}{k a:Int}{x:ByteArray}{w:World}(h:B3 g k a x w)(j:Nat):w.frozen? ⟨g,j,none⟩=false:=frozen_of_row w g j _ _ h
theorem B3.new(w:World)(k a:Int)(x:ByteArray):B3 w.heap.size k a x (w.alloc (.cells #[.int .i64 k,.string x,.int .i64 a] 86)):=heap_alloc_new w _
theorem B3.put{g:Nat}{k a:Int}{x:ByteArray}{w:World}(h:B3 g k a x w)(k' a':Int)(x':ByteArray):
  B3 g k' a' x' (((w.setCell ⟨g,0,none⟩ (.int .i64 k')).setCell ⟨g,1,none⟩ (.string x')).setCell ⟨g,2,none⟩ (.int .i64 a')):=
 heap_setCell_same _ g 2 _ _ _ (heap_setCell_same _ g 1 _ _ _ (heap_setCell_same _ g 0 _ _ _ h))
theorem B3.other{g h:Nat}{k a:Int}{x:ByteArray}{w:World}(H:B3 g k a x w)(hne:g≠h)(j:Nat)(v:Value):B3 g k a x (w.setCell ⟨h,j,none⟩ v):=(Below.heap_setCell w ⟨h,j,none⟩ v g hne).trans H
theorem below_set3{B g:Nat}{w W:World}(h:Below B W w)(hg:B≤g)(x y z:Value):Below B W (((w.setCell ⟨g,0,none⟩ x).setCell ⟨g,1,none⟩ y).setCell ⟨g,2,none⟩ z):=
 ((h.setCell (p:=⟨g,0,none⟩) hg x).setCell (p:=⟨g,1,none⟩) hg y).setCell (p:=⟨g,2,none⟩) hg z
set_option maxHeartbeats 1600000 in
theorem spec_word(s:ByteArray)(A E:Nat)(w:World)(hs:s.size≤1048576)(hAE:A<E)(hE:E≤s.size):
  Calls Tryz.prog 186 #[.string s,.int .i64 (A:Int),.int .i64 (E:Int)] w fun e w'=>e= .returned (.agg #[.int .i64 (wordK s (s.extract A E) E),.string (s.extract A E),.int .i64 (A:Int)])∧Below w.heap.size w w':=by
 obtain⟨x,hx⟩:∃x,x=s.extract A E:=⟨_,rfl⟩
 have HX:=hid hx
 rw[←hx]
 clear hx
 have i1:(A:Int)≤(E:Int):=by omega
 have i2:(E:Int)≤(s.size:Int):=by omega
 have B:=hid (((Below.refl w.heap.size w).alloc (Nat.le_refl _) (.cells #[.int .i64 0,.string ⟨#[]⟩,.int .i64 0] 86)).alloc (by simp) (.cells #[.int .i64 6,.string x,.int .i64 (A:Int)] 86))
 have D:=hid ((B3.new w 0 0 ⟨#[]⟩).keep (((Below.refl (w.heap.size+1) (w.alloc (.cells #[.int .i64 0,.string ⟨#[]⟩,.int .i64 0] 86)))).alloc (by simp) (.cells #[.int .i64 6,.string x,.int .i64 (A:Int)] 86)) (Nat.lt_succ_self _))
 have C:=hid (show B3 (w.heap.size+1) 6 (A:Int) x ((w.alloc (.cells #[.int .i64 0,.string ⟨#[]⟩,.int .i64 0] 86)).alloc (.cells #[.int .i64 6,.string x,.int .i64 (A:Int)] 86)) by
  have:=B3.new (w.alloc (.cells #[.int .i64 0,.string ⟨#[]⟩,.int .i64 0] 86)) 6 (A:Int) x
  rwa [show(w.alloc (.cells #[.int .i64 0,.string ⟨#[]⟩,.int .i64 0] 86)).heap.size=w.heap.size+1 by simp]at this)
 by_cases hk:spell.keyword x=0
 ·obtain⟨k1,k2⟩:=eqI hk
  cases hb:toks.isBuiltin x
  ·by_cases hp:byteZ s (E:Int)=40
   ·have HW:=hid (show wordK s x E=7 by unfold wordK;rw[if_pos hk,if_neg (by rw[hb];decide),if_pos hp])
    obtain⟨p1,p2⟩:=eqI hp
    clear hk hp
    go_enter Tryz.func186,Tryz.ntmps186
    go_wp2_with fail
    rw[←HX.out]
    refine(spell.spec_keyword x _).mono ?_
    rintro e w1 ⟨rfl,b1⟩
    have o:=hid (D.keep b1 D.lt)
    have m:=hid (C.keep b1 C.lt)
    have y:=hid (B.trans (b1.mono B.size))
    have t0:=m.c
    clear b1
    go_wp2_with fail
    refine(toks.spec_builtin x _).mono ?_
    rintro e w2 ⟨rfl,b2⟩
    have j:=hid (o.keep b2 o.lt)
    have u:=hid (m.keep b2 m.lt)
    have F:=hid (y.trans (b2.mono y.size))
    have t0:=u.c
    have g0:=u.f 0
    have q0:=j.c
    have q3:=j.f
    clear b2
    go_wp2_with (go_at_call 121;refine(spec_byte s _ _ hs).mono ?_;rintro e w' ⟨rfl,rfl⟩)
    obtain⟨r0,r1,r2⟩:=((j.other (h:=w.heap.size+1) (by omega) 0 (.int .i64 (7))).put (7) (A:Int) x).c
    refine bodyPost_ret (v:= .agg #[.int .i64 (7),.string x,.int .i64 (A:Int)]) (by simp[results,Tryz.results186,go_sem,r0,r1,r2]) rfl ⟨by rw[HW.out],below_set3 (F.setCell (p:=⟨w.heap.size+1,0,none⟩) (Nat.le_succ _) _) (Nat.le_refl _) _ _ _⟩
   ·have HW:=hid (show wordK s x E=6 by unfold wordK;rw[if_pos hk,if_neg (by rw[hb];decide),if_neg hp])
    obtain⟨p1,p2⟩:=neI hp
    clear hk hp
    go_enter Tryz.func186,Tryz.ntmps186
    go_wp2_with fail
    rw[←HX.out]
    refine(spell.spec_keyword x _).mono ?_
    rintro e w1 ⟨rfl,b1⟩
    have o:=hid (D.keep b1 D.lt)
    have m:=hid (C.keep b1 C.lt)
    have y:=hid (B.trans (b1.mono B.size))
    have t0:=m.c
    clear b1
    go_wp2_with fail
    refine(toks.spec_builtin x _).mono ?_
    rintro e w2 ⟨rfl,b2⟩
    have j:=hid (o.keep b2 o.lt)
    have u:=hid (m.keep b2 m.lt)
    have F:=hid (y.trans (b2.mono y.size))
    have t0:=u.c
    have g0:=u.f 0
    have q0:=j.c
    have q3:=j.f
    clear b2
    go_wp2_with (go_at_call 121;refine(spec_byte s _ _ hs).mono ?_;rintro e w' ⟨rfl,rfl⟩)
    obtain⟨r0,r1,r2⟩:=(j.put (6) (A:Int) x).c
    refine bodyPost_ret (v:= .agg #[.int .i64 (6),.string x,.int .i64 (A:Int)]) (by simp[results,Tryz.results186,go_sem,r0,r1,r2]) rfl ⟨by rw[HW.out],below_set3 F.out (Nat.le_refl _) _ _ _⟩
  ·have HW:=hid (show wordK s x E=8 by unfold wordK;rw[if_pos hk,if_pos hb])
   clear hk
   go_enter Tryz.func186,Tryz.ntmps186
   go_wp2_with fail
   rw[←HX.out]
   refine(spell.spec_keyword x _).mono ?_
   rintro e w1 ⟨rfl,b1⟩
   have o:=hid (D.keep b1 D.lt)
   have m:=hid (C.keep b1 C.lt)
   have y:=hid (B.trans (b1.mono B.size))
   have t0:=m.c
   clear b1
   go_wp2_with fail
   refine(toks.spec_builtin x _).mono ?_
   rintro e w2 ⟨rfl,b2⟩
   have j:=hid (o.keep b2 o.lt)
   have u:=hid (m.keep b2 m.lt)
   have F:=hid (y.trans (b2.mono y.size))
   have t0:=u.c
   have g0:=u.f 0
   have q0:=j.c
   have q3:=j.f
   clear b2
   go_wp2
   obtain⟨r0,r1,r2⟩:=((j.other (h:=w.heap.size+1) (by omega) 0 (.int .i64 (8))).put (8) (A:Int) x).c
   refine bodyPost_ret (v:= .agg #[.int .i64 (8),.string x,.int .i64 (A:Int)]) (by simp[results,Tryz.results186,go_sem,r0,r1,r2]) rfl ⟨by rw[HW.out],below_set3 (F.setCell (p:=⟨w.heap.size+1,0,none⟩) (Nat.le_succ _) _) (Nat.le_refl _) _ _ _⟩
 ·have HW:=hid (show wordK s x E=spell.keyword x by unfold wordK;rw[if_neg hk])
  obtain⟨k1,k2⟩:=neI hk
  clear hk
  go_enter Tryz.func186,Tryz.ntmps186
  go_wp2_with fail
  rw[←HX.out]
  refine(spell.spec_keyword x _).mono ?_
  rintro e w1 ⟨rfl,b1⟩
  have o:=hid (D.keep b1 D.lt)
  have m:=hid (C.keep b1 C.lt)
  have y:=hid (B.trans (b1.mono B.size))
  have t0:=m.c
  clear b1
  go_wp2_with fail
  refine(spell.spec_keyword x _).mono ?_
  rintro e w2 ⟨rfl,b2⟩
  have j:=hid (o.keep b2 o.lt)
  have u:=hid (m.keep b2 m.lt)
  have F:=hid (y.trans (b2.mono y.size))
  have t0:=u.c
  have g0:=u.f 0
  have q0:=j.c
  have q3:=j.f
  clear b2
  go_wp2
  obtain⟨r0,r1,r2⟩:=((j.other (h:=w.heap.size+1) (by omega) 0 (.int .i64 (spell.keyword x))).put (spell.keyword x) (A:Int) x).c
  refine bodyPost_ret (v:= .agg #[.int .i64 (spell.keyword x),.string x,.int .i64 (A:Int)]) (by simp[results,Tryz.results186,go_sem,r0,r1,r2]) rfl ⟨by rw[HW.out],below_set3 (F.setCell (p:=⟨w.heap.size+1,0,none⟩) (Nat.le_succ _) _) (Nat.le_refl _) _ _ _⟩
end Go.Proofs.YtebjmdpkobhcbaaGreatDoor.lex

namespace Go.Proofs.YtebjmdpkobhcbaaGreatDoor.tksok
open Lib (hid)
open Go.ChangeShapes Go.WideShapes Go.ChangeAt Go.RowKit
open tk
open lex (eqI neI)
open spell (Held)
set_option linter.unusedVariables false
def follow(p k:Int):Bool:=
 if p=7∧¬k=32 then false
 else if p=2∧¬k=1 then false
 else if k=5 then !operand.ends p
 else if k=58∨k=41 then operand.ends p
 else true
def okFrom(p:Int):List Tk→Bool
 |[]=>p !=7
 |t::l=>tok.tokOk t.k t.s&&(follow p t.k&&okFrom t.k l)
def tokensOk(l:List Tk):Bool:=decide (l.length≤3000)&&okFrom 0 l
theorem impl_follow(p k:Int)(w:World):Calls Tryz.prog 153 #[.int .i64 p,.int .i64 k] w fun e w'=>e= .returned (.bool (follow p k))∧w=w':=by
 by_cases h1:p=7
 ·obtain⟨a1,a2⟩:=eqI h1
  by_cases h2:k=32
  ·subst h1 h2
   go_enter Tryz.func153,Tryz.ntmps153
   go_wp2
   go_ret
   exact⟨rfl,rfl⟩
  ·have HE:=hid (show follow p k=false by unfold follow;rw[if_pos ⟨h1,h2⟩])
   obtain⟨b1,b2⟩:=neI h2
   clear h1 h2
   go_enter Tryz.func153,Tryz.ntmps153
   go_wp2
   go_ret
   exact⟨by rw[HE.out];rfl,rfl⟩
 obtain⟨a1,a2⟩:=neI h1
 by_cases h3:p=2
 ·obtain⟨a3,a4⟩:=eqI h3
  by_cases h4:k=1
  ·subst h3 h4
   go_enter Tryz.func153,Tryz.ntmps153
   go_wp2
   go_ret
   exact⟨rfl,rfl⟩
  ·have HE:=hid (show follow p k=false by unfold follow;rw[if_neg (fun h=>h1 h.1),if_pos ⟨h3,h4⟩])
   obtain⟨b1,b2⟩:=neI h4
   clear h1 h3 h4
   go_enter Tryz.func153,Tryz.ntmps153
   go_wp2
   go_ret
   exact⟨by rw[HE.out];rfl,rfl⟩
 obtain⟨a3,a4⟩:=neI h3
 by_cases h5:k=5
 ·have HE:=hid (show follow p k= !operand.ends p by unfold follow;rw[if_neg (fun h=>h1 h.1),if_neg (fun h=>h3 h.1),if_pos h5])
  obtain⟨a5,a6⟩:=eqI h5
  clear h1 h3 h5
  go_enter Tryz.func153,Tryz.ntmps153
  go_wp2_with (go_at_call 130;refine(operand.impl_ends _ _).mono ?_;rintro e w' ⟨rfl,rfl⟩)
  go_ret
  exact⟨by rw[HE.out];rfl,rfl⟩
 obtain⟨a5,a6⟩:=neI h5
 by_cases h6:k=58
 ·have HE:=hid (show follow p k=operand.ends p by unfold follow;rw[if_neg (fun h=>h1 h.1),if_neg (fun h=>h3 h.1),if_neg h5,if_pos (.inl h6)])
  obtain⟨a7,a8⟩:=eqI h6
  clear h1 h3 h5 h6
  go_enter Tryz.func153,Tryz.ntmps153
  go_wp2_with (go_at_call 130;refine(operand.impl_ends _ _).mono ?_;rintro e w' ⟨rfl,rfl⟩)
  go_ret
  exact⟨by rw[HE.out];rfl,rfl⟩
 obtain⟨a7,a8⟩:=neI h6
 by_cases h7:k=41
 ·have HE:=hid (show follow p k=operand.ends p by unfold follow;rw[if_neg (fun h=>h1 h.1),if_neg (fun h=>h3 h.1),if_neg h5,if_pos (.inr h7)])
  obtain⟨b7,b8⟩:=eqI h7
  clear h1 h3 h5 h6 h7
  go_enter Tryz.func153,Tryz.ntmps153
  go_wp2_with (go_at_call 130;refine(operand.impl_ends _ _).mono ?_;rintro e w' ⟨rfl,rfl⟩)
  go_ret
  exact⟨by rw[HE.out];rfl,rfl⟩
 have HE:=hid (show follow p k=true by unfold follow;rw[if_neg (fun h=>h1 h.1),if_neg (fun h=>h3 h.1),if_neg h5,if_neg (fun h=>h.elim h6 h7)])
 obtain⟨b7,b8⟩:=neI h7
 clear h1 h3 h5 h6 h7
 go_enter Tryz.func153,Tryz.ntmps153
 go_wp2
 go_ret
 exact⟨by rw[HE.out];rfl,rfl⟩
theorem ok_cons{l:List Tk}{I:Nat}(h:I<l.length)(p:Int):okFrom p (l.drop I)=(tok.tokOk l[I].k l[I].s&&(follow p l[I].k&&okFrom l[I].k (l.drop (I+1)))):=by
 rw[List.drop_eq_getElem_cons h]
 rfl
def RelOk(B:Nat)(W:World)(l:List Tk)(p i:Value)(wr:World):Prop:=
 ∃(I:Nat) (P:Int),I≤l.length∧i= .int .i64 (I:Int)∧p= .int .i64 P∧Below B W wr∧okFrom P (l.drop I)=okFrom 0 l
set_option maxHeartbeats 3200000 in
theorem impl_toksOk(l:List Tk)(a:Option Addr)(cap:Nat)(w:World)(hn:l.length≤1048576)(hc:Lies w.heap.size w a l)(hm:∀t∈l,t.s.size≤1048576)(hh:Held w):
  Calls Tryz.prog 96 #[.slice a l.length cap] w fun e w'=>e= .returned (.bool (tokensOk l))∧Below w.heap.size w w':=by
 have HC:=hid hc
 have HM:=hid hm
 have HH:=hid hh
 clear hc hm hh
 obtain⟨n,hln⟩:∃n,n=l.length:=⟨_,rfl⟩
 have HLN:=hid hln
 rw[←hln]
 rw[←hln]at hn
 by_cases hbig:3000<n
 ·have HE:=hid (show tokensOk l=false by unfold tokensOk;rw[decide_eq_false (by omega)];rfl)
  have u:(3000:Int)<(n:Int):=by omega
  clear hln hbig
  go_enter Tryz.func96,Tryz.ntmps96
  go_wp2
  go_ret
  exact⟨by rw[HE.out];rfl,Below.refl _ _⟩
 have HT:=hid (show tokensOk l=okFrom 0 l by unfold tokensOk;rw[decide_eq_true (by omega)];rfl)
 have u:¬(3000:Int)<(n:Int):=by omega
 clear hln hbig
 go_enter Tryz.func96,Tryz.ntmps96
 go_wp2
 go_loopw [3,11] (fun p i wr=>RelOk w.heap.size w l p i wr) (fun _ i _=>n-(intOf i).toNat)
 case atStart=>exact⟨0,0,by omega,rfl,rfl,Below.refl _ _,rfl⟩
 case round=>
  obtain⟨I,P,hI,rfl,rfl,hbel,hok⟩:=hrel
  have HB:=hid hbel
  have HO:=hid hok
  rw[←HLN.out]at hI
  clear hbel hok
  by_cases hlt:I<n
  ·have m:I<l.length:=by have:=HLN.out;omega
   have HCO:=hid (ok_cons m P)
   obtain⟨b,o,rfl,hb,hcell⟩:=lies_at HC.out m
   obtain⟨c0,c1,c2⟩:=(hcell I m).keep HB.out hb
   have hts:=HM.out l[I] (List.getElem_mem m)
   obtain⟨t,ht⟩:∃t,t=l[I]:=⟨_,rfl⟩
   rw[←ht]at HCO c0 c1 c2 hts
   have x:(I:Int)<(n:Int):=by omega
   have y:(0:Int)≤(I:Int):=by omega
   have HHr:=hid (HH.below HB.out)
   clear ht hcell
   have f:=hid (HB.alloc HB.size (.cells #[.int .i64 t.k,.string t.s,.int .i64 t.a] 86))
   have j:=hid (lex.B3.new wr t.k t.a t.s)
   cases hok1:tok.tokOk t.k t.s
   ·have HE:=hid (show tokensOk l=false by rw[HT.out,←HO.out,HCO.out,hok1];rfl)
    go_wp2_with fail
    refine(tok.impl_tok t.k t.a t.s _ hts (HHr.below ((Below.refl _ _).alloc (Nat.le_refl _) _))).mono ?_
    rintro e w2 ⟨he,b2⟩
    rw[hok1]at he
    subst he
    have h:=hid (f.trans (b2.mono f.size))
    clear b2
    go_wp2
    go_ret
    exact⟨by rw[HE.out];rfl,h.out⟩
   ·cases hf:follow P t.k
    ·have HE:=hid (show tokensOk l=false by rw[HT.out,←HO.out,HCO.out,hok1,hf];rfl)
     go_wp2_with fail
     refine(tok.impl_tok t.k t.a t.s _ hts (HHr.below ((Below.refl _ _).alloc (Nat.le_refl _) _))).mono ?_
     rintro e w2 ⟨he,b2⟩
     rw[hok1]at he
     subst he
     have h:=hid (f.trans (b2.mono f.size))
     obtain⟨x0,x1,x2⟩:=(j.keep b2 j.lt).c
     clear b2
     go_wp2_with (go_at_call 153;refine(impl_follow _ _ _).mono ?_;rintro e w' ⟨he,rfl⟩;rw[hf]at he;subst he)
     go_ret
     exact⟨by rw[HE.out];rfl,h.out⟩
    ·have HE:=hid (show okFrom t.k (l.drop (I+1))=okFrom 0 l by rw[←HO.out,HCO.out,hok1,hf];rfl)
     go_wp2_with fail
     refine(tok.impl_tok t.k t.a t.s _ hts (HHr.below ((Below.refl _ _).alloc (Nat.le_refl _) _))).mono ?_
     rintro e w2 ⟨he,b2⟩
     rw[hok1]at he
     subst he
     have h:=hid (f.trans (b2.mono f.size))
     obtain⟨x0,x1,x2⟩:=(j.keep b2 j.lt).c
     clear b2
     go_wp2_with (go_at_call 153;refine(impl_follow _ _ _).mono ?_;rintro e w' ⟨he,rfl⟩;rw[hf]at he;subst he)
     go_roundw
     case rel=>exact⟨I+1,t.k,by have:=HLN.out;omega,by go_num,rfl,h.out,HE.out⟩
     case measure=>simp[intOf];omega
  ·have HE:=hid (show tokensOk l=(P !=7) by
    rw[HT.out,←HO.out,List.drop_eq_nil_of_le (by have:=HLN.out;omega)];rfl)
   go_wp2
   go_ret
   exact⟨by rw[HE.out];rfl,HB.out⟩
end Go.Proofs.YtebjmdpkobhcbaaGreatDoor.tksok

namespace Go.Proofs.YtebjmdpkobhcbaaGreatDoor.lex
open Lib (hid)
open Go.ChangeShapes Go.WideShapes Go.ChangeAt Go.RowKit
open tk scan own
open spell (Held)
set_option linter.unusedVariables false
set_option maxRecDepth 20000
def LexOut(s:ByteArray)(w:World)(e:Ending)(w':World):Prop:=
 ∃v,e= .returned (.tuple #[v,.agg #[.int .i64 (lexF s).2.1,.int .i64 (lexF s).2.2]])∧Below w.heap.size w w'∧Own w.heap.size v (lexF s).1 w'
def FBox(g:Nat)(w:World):Prop:=w.heap[g]? =some (.cells #[.int .i64 0,.int .i64 0] 28 (0,0))
def RelLex(s:ByteArray)(W:World)(v p a:Value)(wr:World):Prop:=
 ∃(d:List Tk) (P:Int) (A:Nat),Own (W.heap.size+1) v d wr∧p= .int .i64 P∧a= .int .i64 (A:Int)∧A≤s.size∧gapZ s A=A∧push d (lexZ s A P)=lexZ s 0 0∧d.length≤A∧Below W.heap.size W wr∧FBox W.heap.size wr
theorem lexF_big{s:ByteArray}(h:3000<s.size):lexF s=([],(1,0)):=by unfold lexF;rw[if_pos h]
theorem lexF_fault{s:ByteArray}(h:¬3000<s.size){f:Nat}(hl:lexZ s 0 0= .inl f):lexF s=([],(2,(f:Int))):=by unfold lexF;rw[if_neg h,hl]
theorem lexF_ok{s:ByteArray}(h:¬3000<s.size){l:List Tk}(hl:lexZ s 0 0= .inr l):lexF s=(l,(0,0)):=by unfold lexF;rw[if_neg h,hl]
theorem fbox_put{g:Nat}{w:World}(h:FBox g w)(x y:Value):((w.setCell ⟨g,0,none⟩ x).setCell ⟨g,1,none⟩ y).heap[g]? =some (.cells #[x,y] 28 (0,0)):=
 heap_setCell_same _ g 1 _ _ y (heap_setCell_same _ g 0 _ _ x h)
theorem fbox_cells{g:Nat}{w:World}(h:FBox g w)(x y:Value):((w.setCell ⟨g,0,none⟩ x).setCell ⟨g,1,none⟩ y).cell? ⟨g,0,none⟩=some x∧((w.setCell ⟨g,0,none⟩ x).setCell ⟨g,1,none⟩ y).cell? ⟨g,1,none⟩=some y:=
 ⟨by rw[cell_of_row _ g 0 _ _ _ (fbox_put h x y)];rfl,by rw[cell_of_row _ g 1 _ _ _ (fbox_put h x y)];rfl⟩
set_option maxHeartbeats 1600000 in
theorem impl_lex(s:ByteArray)(w:World)(hs:s.size≤1048576)(hh:Held w):
  Calls Tryz.prog 34 #[.string s] w (LexOut s w):=by
 have HH:=hid hh
 have y:=hid (show FBox w.heap.size (w.alloc (.cells #[.int .i64 0,.int .i64 0] 28))from heap_alloc_new w _)
 have x:=hid ((Below.refl w.heap.size w).alloc (Nat.le_refl _) (.cells #[.int .i64 0,.int .i64 0] 28))
 clear hh
 by_cases hbig:3000<s.size
 ·have HR:=hid (lexF_big hbig)
  go_enter Tryz.func34,Tryz.ntmps34
  go_wp2
  refine bodyPost_ret (v:= .tuple #[.slice none 0 0,.agg #[.int .i64 1,.int .i64 0]]) (by simp[results,Tryz.results34,go_sem]) rfl ?_
  refine⟨.slice none 0 0,by rw[HR.out],(Below.refl _ _).alloc (Nat.le_refl _) _,by rw[HR.out];exact Own.nil _ _⟩
 have hgt:decide (3000<s.size)=false:=by rw[decide_eq_false_iff_not];exact hbig
 have I:s.size≤3000:=by omega
 have HBIG:=hid hbig
 have B:=gap_bd s 0
 obtain⟨i0,hi,G,H,C⟩:=info_parts Tryz.infoTok
 have j:=hid (gap_gap s 0)
 have u:=hid (show push [] (lexZ s (gapZ s 0) 0)=lexZ s 0 0 by rw[push_nil];exact lex_gap (gap_gap s 0))
 have o:gapZ s 0≤s.size:=by omega
 obtain⟨g0,f⟩:∃g,g=gapZ s 0:=⟨_,rfl⟩
 rw[←f]at j u o
 have HGE:=hid f
 clear hbig B f
 go_enter Tryz.func34,Tryz.ntmps34
 go_wp2_with fail
 refine(impl_gap s 0 _ hs (by omega)).mono ?_
 rintro e w1 ⟨he,rfl⟩
 rw[←HGE.out]at he
 subst he
 go_wp2
 go_loopw [4,5,6] (fun v p a wr=>RelLex s w v p a wr) (fun _ _ a _=>s.size-(intOf a).toNat)
 case atStart=>exact⟨[],0,g0,Own.nil _ _,rfl,rfl,o,j.out,u.out,by simp,x.out,y.out⟩
 case round=>
  obtain⟨d,P,A,hown,rfl,rfl,hA,hgA,hpush,hdl,hbel,hfb⟩:=hrel
  have HOWN:=hid hown
  have HGA:=hid hgA
  have HPUSH:=hid hpush
  have HBEL:=hid hbel
  have HFB:=hid hfb
  have N:w.heap.size<wr.heap.size:=by
   rcases Nat.lt_or_ge w.heap.size wr.heap.size with h|h
   ·exact h
   ·unfold FBox at hfb;rw[Array.getElem?_eq_none h]at hfb;cases hfb
  have HHr:=hid (HH.below hbel)
  have f0:wr.frozen? ⟨w.heap.size,0,none⟩=false:=frozen_of_row wr _ 0 _ _ hfb
  have f1:wr.frozen? ⟨w.heap.size,1,none⟩=false:=frozen_of_row wr _ 1 _ _ hfb
  have c0:wr.cell? ⟨w.heap.size,0,none⟩=some (.int .i64 0):=by rw[cell_of_row wr _ 0 _ _ _ hfb];rfl
  have c1:wr.cell? ⟨w.heap.size,1,none⟩=some (.int .i64 0):=by rw[cell_of_row wr _ 1 _ _ _ hfb];rfl
  clear hown hgA hpush hbel hfb
  by_cases hlt:A<s.size
  ·have hf:=kind_facts s A P hlt
   obtain⟨K,hK⟩:∃K,K=kindAt s A P:=⟨_,rfl⟩
   rw[←hK]at hf
   have HK:=hid hK
   have D:(A:Int)<(s.size:Int):=by omega
   clear hK
   by_cases he:K.2≤(A:Int)
   ·have HE:=hid (lexF_fault HBIG.out (show lexZ s 0 0= .inl A by rw[←HPUSH.out,lex_none (by rw[HGA.out];exact hlt) (by rw[HGA.out,←HK.out];exact he),HGA.out];rfl))
    clear hf
    go_wp2_with (go_at_call 74;refine(impl_kind s A P _ hs hlt HHr.out).mono ?_;rintro e w' ⟨he,rfl⟩;rw[←HK.out]at he;subst he)
    obtain⟨d0,d1⟩:=fbox_cells HFB.out (.int .i64 2) (.int .i64 (A:Int))
    refine bodyPost_ret (v:= .tuple #[.slice none 0 0,.agg #[.int .i64 2,.int .i64 (A:Int)]]) (by simp[results,Tryz.results34,go_sem,d0,d1]) rfl ?_
    exact⟨.slice none 0 0,by rw[HE.out],below_set2 HBEL.out _ _,by rw[HE.out];exact Own.nil _ _⟩
   ·obtain⟨k,e2⟩:=K
    simp only at hf he
    obtain⟨E,rfl⟩:∃E:Nat,e2=E:=⟨e2.toNat,by omega⟩
    have hEA:A<E:=by omega
    have hEs:E≤s.size:=by omega
    have HST:=hid (lex_step HGA.out hlt HK.symm hEA)
    have J:(A:Int)≤(E:Int):=by omega
    have F:(E:Int)≤(s.size:Int):=by omega
    have hgb:=gap_bd s E
    obtain⟨g,hg⟩:∃g,g=gapZ s E:=⟨_,rfl⟩
    rw[←hg]at hgb
    have HG:=hid hg
    clear hf hg
    have hle:¬(E:Int)≤(A:Int):=by omega
    have hsz:=HBEL.size
    go_wp2_with (first|(go_at_call 74;refine(impl_kind s A P _ hs hlt HHr.out).mono ?_;rintro e w' ⟨he,rfl⟩;rw[←HK.out]at he;subst he)|(at_builtin;refine wpList_append_tok wr ⟨k,s.extract A E,(A:Int)⟩ rfl _ _ rfl (w.heap.size+1) _ d rfl HOWN.out rfl ?n1 ?n2 ?n3))
    case n1=>omega
    case n2=>omega
    case n3=>
     intro v' w2 hown' b2 _
     have HO:=hid hown'
     have m:=hid b2
     clear hown' b2
     go_wp2_with (go_at_call 73;refine(impl_gap s E _ hs hEs).mono ?_;rintro e w' ⟨he,rfl⟩;rw[←HG.out]at he;subst he)
     go_roundw
     case rel=>exact⟨d++[⟨k,s.extract A E,(A:Int)⟩],k,g,HO.out,rfl,rfl,by omega,by rw[HG.out];exact gap_gap s E,by rw[push_push,HG.out,lex_gap (gap_gap s E),←HST.out];exact HPUSH.out,by simp;omega,HBEL.trans (m.mono (Nat.le_succ _)),(m.block _ (Nat.lt_succ_self _)).trans HFB.out⟩
     case measure=>simp[intOf];omega
  ·obtain rfl:A=s.size:=by omega
   have HE:=hid (lexF_ok HBIG.out (show lexZ s 0 0= .inr d by rw[←HPUSH.out,lex_end (by rw[HGA.out];omega)];simp[push]))
   go_wp2
   obtain⟨d0,d1⟩:=fbox_cells HFB.out (.int .i64 0) (.int .i64 0)
   refine bodyPost_ret (v:= .tuple #[u4,.agg #[.int .i64 0,.int .i64 0]]) (by simp[results,Tryz.results34,go_sem,d0,d1]) rfl ?_
   exact⟨u4,by rw[HE.out],below_set2 HBEL.out _ _,by rw[HE.out];exact HOWN.set2 _ _⟩
end Go.Proofs.YtebjmdpkobhcbaaGreatDoor.lex
