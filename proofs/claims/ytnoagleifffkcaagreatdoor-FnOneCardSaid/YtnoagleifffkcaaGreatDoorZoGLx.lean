/-

-/
import Derived.Test.YtnoagleifffkcaaGreatDoorZoGBs
import Derived.Test.YtnoagleifffkcaaGreatDoorRows
import Derived.WalkKit
import Derived.ProofKit
import Derived.OpenShut
import Derived.ShutString
import Derived.ChangeOld
import Derived.Below
import Derived.WalkSpells
import Derived.WalkLawsBesides
import Derived.Test.YtnoagleifffkcaaGreatDoorZoGSp
import Derived.Test.YtnoagleifffkcaaGreatDoorShelf
import Derived.BigQuiet
import Derived.IntWalk
import Derived.Deep.QuietTactic
import Derived.Lib.Strings
import Derived.Deep.RegionHeld3
import Derived.Lib.IndexLaws
import Derived.Test.YtnoagleifffkcaaGreatDoorZoTk
import Derived.Test.YtnoagleifffkcaaGreatDoorZoOperand
namespace Go.Proofs.YtnoagleifffkcaaGreatDoor.scan
open Go.RowKit
set_option linter.unusedVariables false
def byteZ(s:ByteArray)(i:Int):Int:=if 0≤i∧i<(s.size:Int)then((s.data.toList.getD i.toNat 0).toNat:Int)else-1
theorem byte_out{s:ByteArray}{i:Int}(h:i<0∨(s.size:Int)≤i):byteZ s i= -1:=by
 unfold byteZ
 rw[if_neg (by omega)]
theorem byte_in{s:ByteArray}{I:Nat}(h:I<s.size):byteZ s I=(s[I].toNat:Int):=by
 unfold byteZ
 rw[if_pos (by omega)]
 rw[show((I:Int)).toNat=I by omega,chars.byte_at s I h]
theorem byte_range{s:ByteArray}{i:Int}(h:byteZ s i≠ -1):0≤i∧i<(s.size:Int):=by
 by_cases h':0≤i∧i<(s.size:Int)
 ·exact h'
 ·exact absurd (byte_out (by omega)) h
def runEnd(p:Int→Bool)(s:ByteArray)(i:Int):Int:=
 if h:p (byteZ s i)=true∧0≤i∧i<(s.size:Int)then runEnd p s (i+1)else i
termination_by ((s.size:Int)-i).toNat
decreasing_by omega
def Cls(p:Int→Bool):Prop:=p (-1)=false
theorem cls_digit:Cls chars.isDigit:=by unfold Cls;decide
theorem cls_word:Cls chars.isWord:=by unfold Cls;decide
theorem cls_letter:Cls chars.isLetter:=by unfold Cls;decide
theorem Cls.range{p:Int→Bool}(hp:Cls p){s:ByteArray}{i:Int}(h:p (byteZ s i)=true):0≤i∧i<(s.size:Int):=by
 refine byte_range fun e=> ?_
 rw[e,hp]at h
 cases h
theorem run_step{p:Int→Bool}(hp:Cls p){s:ByteArray}{i:Int}(h:p (byteZ s i)=true):runEnd p s i=runEnd p s (i+1):=by
 rw[runEnd,dif_pos ⟨h,hp.range h⟩]
theorem run_stop{p:Int→Bool}{s:ByteArray}{i:Int}(h:p (byteZ s i)=false):runEnd p s i=i:=by
 rw[runEnd,dif_neg (by rw[h];simp)]
theorem run_out{p:Int→Bool}{s:ByteArray}{i:Int}(h:i<0∨(s.size:Int)≤i):runEnd p s i=i:=by
 rw[runEnd,dif_neg (by omega)]
theorem run_ge(p:Int→Bool)(s:ByteArray)(i:Int):i≤runEnd p s i:=by
 generalize hn:((s.size:Int)-i).toNat=n
 induction n using Nat.strongRecOn generalizing i with
 |ind n ih=>
  rw[runEnd]
  split
  ·rename_i h
   have:=ih _ (by omega) (i+1) rfl
   omega
  ·omega
theorem run_le(p:Int→Bool)(s:ByteArray)(i:Int)(hi:i≤(s.size:Int)):runEnd p s i≤(s.size:Int):=by
 generalize hn:((s.size:Int)-i).toNat=n
 induction n using Nat.strongRecOn generalizing i with
 |ind n ih=>
  rw[runEnd]
  split
  ·rename_i h
   exact ih _ (by omega) (i+1) (by omega) rfl
  ·exact hi
theorem run_lt{p:Int→Bool}(hp:Cls p){s:ByteArray}{i:Int}(h:p (byteZ s i)=true):i<runEnd p s i:=by
 rw[run_step hp h]
 have:=run_ge p s (i+1)
 omega
abbrev digEnd(s:ByteArray)(i:Int):Int:=runEnd chars.isDigit s i
def expEnd(s:ByteArray)(i:Int):Int:=
 if byteZ s i=101∨byteZ s i=69 then
  if byteZ s (i+1)=43∨byteZ s (i+1)=45 then
   if runEnd chars.isDigit s (i+1+1)>i+1+1 then runEnd chars.isDigit s (i+1+1)else i
  else
   if runEnd chars.isDigit s (i+1)>i+1 then runEnd chars.isDigit s (i+1)else i
 else i
def numEnd(s:ByteArray)(i:Int):Int:=
 if byteZ s (runEnd chars.isDigit s i)=46 then
  if runEnd chars.isDigit s i=i∧runEnd chars.isDigit s (runEnd chars.isDigit s i+1)=runEnd chars.isDigit s i+1 then-1
  else expEnd s (runEnd chars.isDigit s (runEnd chars.isDigit s i+1))
 else if runEnd chars.isDigit s i=i then-1 else expEnd s (runEnd chars.isDigit s i)
theorem num_out{s:ByteArray}{i:Int}(h:i<0∨(s.size:Int)≤i):numEnd s i= -1:=by
 have hr:runEnd chars.isDigit s i=i:=run_out h
 unfold numEnd
 rw[hr,byte_out h]
 simp
def qEnd(s:ByteArray)(g:Int)(i:Nat):Int:=
 if h:i<s.size then
  if(s[i].toNat:Int)=g then(i:Int)+1
  else if(s[i].toNat:Int)=10 then-1
  else if(s[i].toNat:Int)=92 then(if byteZ s (i+1)=10 then-1 else qEnd s g (i+2))
  else qEnd s g (i+1)
 else-1
termination_by s.size-i
decreasing_by all_goals omega
def quoted(s:ByteArray)(i g:Int):Int:=if byteZ s i=g then qEnd s g (i+1).toNat else-1
theorem q_end{s:ByteArray}{g:Int}{i:Nat}(h:¬i<s.size):qEnd s g i= -1:=by
 rw[qEnd,dif_neg h]
theorem q_sign{s:ByteArray}{g:Int}{i:Nat}(h:i<s.size)(h1:(s[i].toNat:Int)=g):qEnd s g i=(i:Int)+1:=by
 rw[qEnd,dif_pos h,if_pos h1]
theorem q_line{s:ByteArray}{g:Int}{i:Nat}(h:i<s.size)(h1:¬(s[i].toNat:Int)=g)(h2:(s[i].toNat:Int)=10):qEnd s g i= -1:=by
 rw[qEnd,dif_pos h,if_neg h1,if_pos h2]
theorem q_esc_line{s:ByteArray}{g:Int}{i:Nat}(h:i<s.size)(h1:¬(s[i].toNat:Int)=g)(h3:(s[i].toNat:Int)=92)(h4:byteZ s (i+1)=10):qEnd s g i= -1:=by
 rw[qEnd,dif_pos h,if_neg h1,if_neg (by omega),if_pos h3,if_pos h4]
theorem q_esc{s:ByteArray}{g:Int}{i:Nat}(h:i<s.size)(h1:¬(s[i].toNat:Int)=g)(h3:(s[i].toNat:Int)=92)(h4:¬byteZ s (i+1)=10):qEnd s g i=qEnd s g (i+2):=by
 rw[qEnd,dif_pos h,if_neg h1,if_neg (by omega),if_pos h3,if_neg h4]
theorem q_next{s:ByteArray}{g:Int}{i:Nat}(h:i<s.size)(h1:¬(s[i].toNat:Int)=g)(h2:¬(s[i].toNat:Int)=10)(h3:¬(s[i].toNat:Int)=92):qEnd s g i=qEnd s g (i+1):=by
 rw[qEnd,dif_pos h,if_neg h1,if_neg h2,if_neg h3]
theorem q_esc_then{s:ByteArray}{g:Int}{i:Nat}(hg:g≠10)(h:i<s.size)(h1:¬(s[i].toNat:Int)=g)(h3:(s[i].toNat:Int)=92)(h4:byteZ s (i+1)=10):qEnd s g i=qEnd s g (i+1):=by
 rw[q_esc_line h h1 h3 h4]
 have hr:=byte_range (s:=s) (i:=(i:Int)+1) (by rw[h4];decide)
 have hlt:i+1<s.size:=by omega
 have e:byteZ s (i+1)=(s[i+1].toNat:Int):=by
  have:=byte_in hlt
  rw[←this]
  congr 1
 rw[q_line hlt (by omega) (by omega)]
theorem quoted_out{s:ByteArray}{i g:Int}(h:¬byteZ s i=g):quoted s i g= -1:=by
 unfold quoted
 rw[if_neg h]
theorem quoted_in{s:ByteArray}{I:Nat}{g:Int}(h:byteZ s I=g):quoted s I g=qEnd s g (I+1):=by
 unfold quoted
 rw[if_pos h,show((I:Int)+1).toNat=I+1 by omega]
def strEnd(s:ByteArray)(i:Int):Int:=quoted s i 34
def ereEnd(s:ByteArray)(i:Int):Int:=if quoted s i 47=i+2 then-1 else quoted s i 47
def nameEnd(s:ByteArray)(i:Int):Int:=if chars.isLetter (byteZ s i)=true then runEnd chars.isWord s i else-1
theorem word_of_letter{n:Int}(h:chars.isLetter n=true):chars.isWord n=true:=by
 unfold chars.isWord;rw[h];rfl
end Go.Proofs.YtnoagleifffkcaaGreatDoor.scan

namespace Go.Proofs.YtnoagleifffkcaaGreatDoor.scan
open Lib (hid)
open Go.ChangeShapes Go.WideShapes Go.ChangeAt Go.RowKit
set_option linter.unusedVariables false
theorem impl_byte(s:ByteArray)(i:Int)(w:World)(hs:s.size≤1048576):Calls Tryz.prog 161 #[.string s,.int .i64 i] w fun e w'=>e= .returned (.int .i64 (byteZ s i))∧w=w':=by
 by_cases h0:i<0
 ·have HE:=hid (byte_out (s:=s) (i:=i) (by omega))
  go_enter Tryz.func161,Tryz.ntmps161
  go_wp2
  go_ret
  exact⟨by rw[HE.out];rfl,rfl⟩
 ·obtain⟨I,rfl⟩:∃I:Nat,i=I:=⟨i.toNat,by omega⟩
  by_cases h1:I<s.size
  ·have HE:=hid (byte_in h1)
   have hc:=s[I].toNat_lt
   clear h0
   go_enter Tryz.func161,Tryz.ntmps161
   go_wp2
   go_ret
   exact⟨by rw[HE.out];rfl,rfl⟩
  ·have HE:=hid (byte_out (s:=s) (i:=I) (by omega))
   have h2:s.size≤I:=by omega
   clear h0
   go_enter Tryz.func161,Tryz.ntmps161
   go_wp2
   go_ret
   exact⟨by rw[HE.out];rfl,rfl⟩
theorem spec_byte(s:ByteArray)(i:Int)(w:World)(hs:s.size≤1048576):Calls Tryz.prog 176 #[.string s,.int .i64 i] w fun e w'=>e= .returned (.int .i64 (byteZ s i))∧w=w':=by
 by_cases h0:i<0
 ·have HE:=hid (byte_out (s:=s) (i:=i) (by omega))
  go_enter Tryz.func176,Tryz.ntmps176
  go_wp2
  go_ret
  exact⟨by rw[HE.out];rfl,rfl⟩
 ·obtain⟨I,rfl⟩:∃I:Nat,i=I:=⟨i.toNat,by omega⟩
  by_cases h1:I<s.size
  ·have HE:=hid (byte_in h1)
   have hc:=s[I].toNat_lt
   clear h0
   go_enter Tryz.func176,Tryz.ntmps176
   go_wp2
   go_ret
   exact⟨by rw[HE.out];rfl,rfl⟩
  ·have HE:=hid (byte_out (s:=s) (i:=I) (by omega))
   have h2:s.size≤I:=by omega
   clear h0
   go_enter Tryz.func176,Tryz.ntmps176
   go_wp2
   go_ret
   exact⟨by rw[HE.out];rfl,rfl⟩
def RelRun(p:Int→Bool)(s:ByteArray)(i:Int)(v:Value):Prop:=∃J:Int,v= .int .i64 J∧runEnd p s J=runEnd p s i
theorem impl_digits(s:ByteArray)(i:Int)(w:World)(hs:s.size≤1048576):Calls Tryz.prog 160 #[.string s,.int .i64 i] w fun e w'=>e= .returned (.int .i64 (runEnd chars.isDigit s i))∧w=w':=by
 go_enter Tryz.func160,Tryz.ntmps160
 go_wp2
 go_loop [1] (fun j=>RelRun chars.isDigit s i j) (fun j=>((s.size:Int)-intOf j).toNat)
 case atStart=>exact⟨i,rfl,rfl⟩
 case round=>
  obtain⟨J,rfl,hJ⟩:=hrel
  have HJ:=hid hJ
  clear hJ
  by_cases hd:chars.isDigit (byteZ s J)=true
  ·have hr:=cls_digit.range hd
   obtain⟨y,F⟩:=hr
   have HS:=hid ((run_step cls_digit hd).symm.trans HJ.out)
   go_wp2_with (first|(go_at_call 161;refine(impl_byte s _ _ hs).mono ?_;rintro e w' ⟨rfl,rfl⟩)|(go_at_call 209;refine(chars.impl_digit _ _).mono ?_;rintro e w' ⟨rfl,rfl⟩))
   go_round
   case rel=>exact⟨J+1,rfl,HS.out⟩
   case measure=>simp[intOf];omega
  ·have hd':chars.isDigit (byteZ s J)=false:=by simpa using hd
   have HS:=hid ((run_stop hd').symm.trans HJ.out)
   clear hd
   go_wp2_with (first|(go_at_call 161;refine(impl_byte s _ _ hs).mono ?_;rintro e w' ⟨rfl,rfl⟩)|(go_at_call 209;refine(chars.impl_digit _ _).mono ?_;rintro e w' ⟨rfl,rfl⟩))
   go_ret
   exact⟨by rw[←HS.out];rfl,rfl⟩
theorem spec_digits(s:ByteArray)(i:Int)(w:World)(hs:s.size≤1048576):Calls Tryz.prog 175 #[.string s,.int .i64 i] w fun e w'=>e= .returned (.int .i64 (runEnd chars.isDigit s i))∧w=w':=by
 go_enter Tryz.func175,Tryz.ntmps175
 go_wp2
 go_loop [1] (fun j=>RelRun chars.isDigit s i j) (fun j=>((s.size:Int)-intOf j).toNat)
 case atStart=>exact⟨i,rfl,rfl⟩
 case round=>
  obtain⟨J,rfl,hJ⟩:=hrel
  have HJ:=hid hJ
  clear hJ
  by_cases hd:chars.isDigit (byteZ s J)=true
  ·have hr:=cls_digit.range hd
   obtain⟨y,F⟩:=hr
   have HS:=hid ((run_step cls_digit hd).symm.trans HJ.out)
   go_wp2_with (first|(go_at_call 176;refine(spec_byte s _ _ hs).mono ?_;rintro e w' ⟨rfl,rfl⟩)|(go_at_call 215;refine(chars.spec_digit _ _).mono ?_;rintro e w' ⟨rfl,rfl⟩))
   go_round
   case rel=>exact⟨J+1,rfl,HS.out⟩
   case measure=>simp[intOf];omega
  ·have hd':chars.isDigit (byteZ s J)=false:=by simpa using hd
   have HS:=hid ((run_stop hd').symm.trans HJ.out)
   clear hd
   go_wp2_with (first|(go_at_call 176;refine(spec_byte s _ _ hs).mono ?_;rintro e w' ⟨rfl,rfl⟩)|(go_at_call 215;refine(chars.spec_digit _ _).mono ?_;rintro e w' ⟨rfl,rfl⟩))
   go_ret
   exact⟨by rw[←HS.out];rfl,rfl⟩
theorem yes_facts{x c d:Int}(hcd:c≠d)(h:x=c∨x=d):((x==c)=true∧(x !=c)=false∧(x==d)=false∧(x !=d)=true)∨((x==c)=false∧(x !=c)=true∧(x==d)=true∧(x !=d)=false):=by
 rcases h with rfl|rfl
 ·exact .inl ⟨by simp,by simp,by simpa using hcd,by simpa using hcd⟩
 ·exact .inr ⟨by simpa using Ne.symm hcd,by simpa using Ne.symm hcd,by simp,by simp⟩
theorem no_facts{x c d:Int}(h:¬(x=c∨x=d)):(x==c)=false∧(x !=c)=true∧(x==d)=false∧(x !=d)=true:=by
 rw[not_or]at h
 simp[h.1,h.2]
theorem eq_facts{x c:Int}(h:x=c):(x==c)=true∧(x !=c)=false:=by subst h;simp
theorem ne_facts{x c:Int}(h:¬x=c):(x==c)=false∧(x !=c)=true:=by simp[h]
theorem impl_exp(s:ByteArray)(I:Nat)(w:World)(hs:s.size≤1048576)(hI:I≤s.size):Calls Tryz.prog 162 #[.string s,.int .i64 (I:Int)] w fun e w'=>e= .returned (.int .i64 (expEnd s I))∧w=w':=by
 by_cases h1:byteZ s I=101∨byteZ s I=69
 ·have hlt:(I:Int)<(s.size:Int):=(byte_range (s:=s) (i:=I) (by omega)).2
  have hy:=yes_facts (by decide) h1
  by_cases h2:byteZ s (I+1)=43∨byteZ s (I+1)=45
  ·have hz:=yes_facts (by decide) h2
   have y:(I:Int)+1<(s.size:Int):=(byte_range (s:=s) (i:=I+1) (by omega)).2
   by_cases h3:runEnd chars.isDigit s (I+1+1)>I+1+1
   ·have HE:=hid (show expEnd s I=runEnd chars.isDigit s (I+1+1) by unfold expEnd;rw[if_pos h1,if_pos h2,if_pos h3])
    have j:(I:Int)+1+1<runEnd chars.isDigit s (I+1+1):=h3
    clear h1 h2 h3
    rcases hy with ⟨a1,a2,a3,a4⟩|⟨a1,a2,a3,a4⟩<;>rcases hz with ⟨c1,c2,c3,c4⟩|⟨c1,c2,c3,c4⟩
    all_goals
     go_enter Tryz.func162,Tryz.ntmps162
     go_wp2_with (first|(go_at_call 161;refine(impl_byte s _ _ hs).mono ?_;rintro e w' ⟨rfl,rfl⟩)|(go_at_call 160;refine(impl_digits s _ _ hs).mono ?_;rintro e w' ⟨rfl,rfl⟩))
     go_ret
     exact⟨by rw[HE.out];rfl,rfl⟩
   ·have HE:=hid (show expEnd s I=I by unfold expEnd;rw[if_pos h1,if_pos h2,if_neg h3])
    have j:runEnd chars.isDigit s (I+1+1)≤(I:Int)+1+1:=by omega
    clear h1 h2 h3
    rcases hy with ⟨a1,a2,a3,a4⟩|⟨a1,a2,a3,a4⟩<;>rcases hz with ⟨c1,c2,c3,c4⟩|⟨c1,c2,c3,c4⟩
    all_goals
     go_enter Tryz.func162,Tryz.ntmps162
     go_wp2_with (first|(go_at_call 161;refine(impl_byte s _ _ hs).mono ?_;rintro e w' ⟨rfl,rfl⟩)|(go_at_call 160;refine(impl_digits s _ _ hs).mono ?_;rintro e w' ⟨rfl,rfl⟩))
     go_ret
     exact⟨by rw[HE.out];rfl,rfl⟩
  ·obtain⟨c1,c2,c3,c4⟩:=no_facts h2
   by_cases h3:runEnd chars.isDigit s (I+1)>I+1
   ·have HE:=hid (show expEnd s I=runEnd chars.isDigit s (I+1) by unfold expEnd;rw[if_pos h1,if_neg h2,if_pos h3])
    have j:(I:Int)+1<runEnd chars.isDigit s (I+1):=h3
    clear h1 h2 h3
    rcases hy with ⟨a1,a2,a3,a4⟩|⟨a1,a2,a3,a4⟩
    all_goals
     go_enter Tryz.func162,Tryz.ntmps162
     go_wp2_with (first|(go_at_call 161;refine(impl_byte s _ _ hs).mono ?_;rintro e w' ⟨rfl,rfl⟩)|(go_at_call 160;refine(impl_digits s _ _ hs).mono ?_;rintro e w' ⟨rfl,rfl⟩))
     go_ret
     exact⟨by rw[HE.out];rfl,rfl⟩
   ·have HE:=hid (show expEnd s I=I by unfold expEnd;rw[if_pos h1,if_neg h2,if_neg h3])
    have j:runEnd chars.isDigit s (I+1)≤(I:Int)+1:=by omega
    clear h1 h2 h3
    rcases hy with ⟨a1,a2,a3,a4⟩|⟨a1,a2,a3,a4⟩
    all_goals
     go_enter Tryz.func162,Tryz.ntmps162
     go_wp2_with (first|(go_at_call 161;refine(impl_byte s _ _ hs).mono ?_;rintro e w' ⟨rfl,rfl⟩)|(go_at_call 160;refine(impl_digits s _ _ hs).mono ?_;rintro e w' ⟨rfl,rfl⟩))
     go_ret
     exact⟨by rw[HE.out];rfl,rfl⟩
 ·have HE:=hid (show expEnd s I=I by unfold expEnd;rw[if_neg h1])
  obtain⟨a1,a2,a3,a4⟩:=no_facts h1
  clear h1
  go_enter Tryz.func162,Tryz.ntmps162
  go_wp2_with (go_at_call 161;refine(impl_byte s _ _ hs).mono ?_;rintro e w' ⟨rfl,rfl⟩)
  go_ret
  exact⟨by rw[HE.out];rfl,rfl⟩
theorem run_nat(s:ByteArray)(A:Nat)(h:A≤s.size):∃E:Nat,runEnd chars.isDigit s A=(E:Int)∧A≤E∧E≤s.size:=by
 have h1:=run_ge chars.isDigit s A
 have h2:=run_le chars.isDigit s A (by omega)
 exact⟨(runEnd chars.isDigit s A).toNat,by omega,by omega,by omega⟩
theorem impl_num(s:ByteArray)(i:Int)(w:World)(hs:s.size≤1048576):Calls Tryz.prog 102 #[.string s,.int .i64 i] w fun e w'=>e= .returned (.int .i64 (numEnd s i))∧w=w':=by
 by_cases h0:i<0∨(s.size:Int)≤i
 ·have HE:=hid (num_out h0)
  have HR:=hid (run_out (p:=chars.isDigit) h0)
  have HB:=hid (byte_out h0)
  clear h0
  go_enter Tryz.func102,Tryz.ntmps102
  go_wp2_with fail
  refine(impl_digits s _ _ hs).mono ?_
  rintro e w' ⟨he,rfl⟩
  rw[HR.out]at he
  subst he
  go_wp2_with fail
  refine(impl_byte s _ _ hs).mono ?_
  rintro e w' ⟨he,rfl⟩
  rw[HB.out]at he
  subst he
  go_wp2
  go_ret
  exact⟨by rw[HE.out];rfl,rfl⟩
 ·obtain⟨A,rfl⟩:∃A:Nat,i=A:=⟨i.toNat,by omega⟩
  have hA:A<s.size:=by omega
  clear h0
  obtain⟨E,hE,hAE,hEs⟩:=run_nat s A (by omega)
  by_cases hd:byteZ s E=46
  ·have hlt:E<s.size:=by have:=(byte_range (s:=s) (i:=E) (by omega)).2;omega
   obtain⟨K,hK,hEK,hKs⟩:=run_nat s (E+1) (by omega)
   have hK':runEnd chars.isDigit s ((E:Int)+1)=K:=by rw[←hK];congr 1
   obtain⟨d1,d2⟩:=eq_facts hd
   by_cases hz:E=A∧K=E+1
   ·have HE:=hid (show numEnd s A= -1 by unfold numEnd;rw[hE,if_pos hd,if_pos (by rw[hK'];omega)])
    have z1:((E:Int)-(A:Int)+((K:Int)-((E:Int)+1))==0)=true:=by rw[beq_iff_eq];omega
    have H1:=hid hE
    have H2:=hid hK'
    clear hE hd hK hK' hz
    go_enter Tryz.func102,Tryz.ntmps102
    go_wp2_with fail
    refine(impl_digits s _ _ hs).mono ?_
    rintro e w' ⟨he,rfl⟩
    rw[H1.out]at he
    subst he
    go_wp2_with fail
    refine(impl_byte s _ _ hs).mono ?_
    rintro e w' ⟨rfl,rfl⟩
    go_wp2_with fail
    refine(impl_digits s _ _ hs).mono ?_
    rintro e w' ⟨he,rfl⟩
    rw[H2.out]at he
    subst he
    go_wp2
    go_ret
    exact⟨by rw[HE.out];rfl,rfl⟩
   ·have HE:=hid (show numEnd s A=expEnd s K by unfold numEnd;rw[hE,if_pos hd,if_neg (by rw[hK'];omega),hK'])
    have z1:((E:Int)-(A:Int)+((K:Int)-((E:Int)+1))==0)=false:=by rw[beq_eq_false_iff_ne];omega
    have H1:=hid hE
    have H2:=hid hK'
    clear hE hd hK hK' hz
    go_enter Tryz.func102,Tryz.ntmps102
    go_wp2_with fail
    refine(impl_digits s _ _ hs).mono ?_
    rintro e w' ⟨he,rfl⟩
    rw[H1.out]at he
    subst he
    go_wp2_with fail
    refine(impl_byte s _ _ hs).mono ?_
    rintro e w' ⟨rfl,rfl⟩
    go_wp2_with fail
    refine(impl_digits s _ _ hs).mono ?_
    rintro e w' ⟨he,rfl⟩
    rw[H2.out]at he
    subst he
    go_wp2_with fail
    refine(impl_exp s _ _ hs hKs).mono ?_
    rintro e w' ⟨rfl,rfl⟩
    go_wp2
    go_ret
    exact⟨by rw[HE.out];rfl,rfl⟩
  ·obtain⟨d1,d2⟩:=ne_facts hd
   by_cases hz:E=A
   ·have HE:=hid (show numEnd s A= -1 by unfold numEnd;rw[hE,if_neg hd,if_pos (by omega)])
    have z1:((E:Int)-(A:Int)==0)=true:=by rw[beq_iff_eq];omega
    have H1:=hid hE
    clear hE hd hz
    go_enter Tryz.func102,Tryz.ntmps102
    go_wp2_with fail
    refine(impl_digits s _ _ hs).mono ?_
    rintro e w' ⟨he,rfl⟩
    rw[H1.out]at he
    subst he
    go_wp2_with fail
    refine(impl_byte s _ _ hs).mono ?_
    rintro e w' ⟨rfl,rfl⟩
    go_wp2
    go_ret
    exact⟨by rw[HE.out];rfl,rfl⟩
   ·have HE:=hid (show numEnd s A=expEnd s E by unfold numEnd;rw[hE,if_neg hd,if_neg (by omega)])
    have z1:((E:Int)-(A:Int)==0)=false:=by rw[beq_eq_false_iff_ne];omega
    have H1:=hid hE
    clear hE hd hz
    go_enter Tryz.func102,Tryz.ntmps102
    go_wp2_with fail
    refine(impl_digits s _ _ hs).mono ?_
    rintro e w' ⟨he,rfl⟩
    rw[H1.out]at he
    subst he
    go_wp2_with fail
    refine(impl_byte s _ _ hs).mono ?_
    rintro e w' ⟨rfl,rfl⟩
    go_wp2_with fail
    refine(impl_exp s _ _ hs hEs).mono ?_
    rintro e w' ⟨rfl,rfl⟩
    go_wp2
    go_ret
    exact⟨by rw[HE.out];rfl,rfl⟩
set_option maxHeartbeats 4000000 in
theorem spec_num(s:ByteArray)(i:Int)(w:World)(hs:s.size≤1048576):Calls Tryz.prog 111 #[.string s,.int .i64 i] w fun e w'=>e= .returned (.int .i64 (numEnd s i))∧w=w':=by
 by_cases h00:i<0
 ·have HE:=hid (num_out (s:=s) (.inl h00))
  go_enter Tryz.func111,Tryz.ntmps111
  go_wp2
  go_ret
  exact⟨by rw[HE.out];rfl,rfl⟩
 by_cases h0:(s.size:Int)≤i
 ·have HE:=hid (num_out (.inr h0))
  have HR:=hid (run_out (p:=chars.isDigit) (.inr h0))
  have HB:=hid (byte_out (.inr h0))
  clear h0
  go_enter Tryz.func111,Tryz.ntmps111
  go_wp2_with fail
  refine(spec_digits s _ _ hs).mono ?_
  rintro e w' ⟨he,rfl⟩
  rw[HR.out]at he
  subst he
  go_wp2_with fail
  refine(spec_byte s _ _ hs).mono ?_
  rintro e w' ⟨he,rfl⟩
  rw[HB.out]at he
  subst he
  go_wp2
  go_ret
  exact⟨by rw[HE.out];rfl,rfl⟩
 obtain⟨A,rfl⟩:∃A:Nat,i=A:=⟨i.toNat,by omega⟩
 have hA:A<s.size:=by omega
 clear h0 h00
 obtain⟨E,hE,hAE,hEs⟩:=run_nat s A (by omega)
 have H1:=hid hE
 by_cases hd:byteZ s E=46
 ·have hlt:E<s.size:=by have:=(byte_range (s:=s) (i:=E) (by omega)).2;omega
  obtain⟨K,hK,hEK,hKs⟩:=run_nat s (E+1) (by omega)
  have hK':runEnd chars.isDigit s ((E:Int)+1)=K:=by rw[←hK];congr 1
  have H2:=hid hK'
  obtain⟨d1,d2⟩:=eq_facts hd
  by_cases hz:E=A∧K=E+1
  ·have HE:=hid (show numEnd s A= -1 by unfold numEnd;rw[hE,if_pos hd,if_pos (by rw[hK'];omega)])
   have z1:((E:Int)==(A:Int))=true:=by rw[beq_iff_eq];omega
   have z2:((K:Int)==(E:Int)+1)=true:=by rw[beq_iff_eq];omega
   clear hE hd hK hK' hz
   go_enter Tryz.func111,Tryz.ntmps111
   go_wp2_with fail
   refine(spec_digits s _ _ hs).mono ?_
   rintro e w' ⟨he,rfl⟩
   rw[H1.out]at he
   subst he
   go_wp2_with fail
   refine(spec_byte s _ _ hs).mono ?_
   rintro e w' ⟨rfl,rfl⟩
   go_wp2_with fail
   refine(spec_digits s _ _ hs).mono ?_
   rintro e w' ⟨he,rfl⟩
   rw[H2.out]at he
   subst he
   go_wp2
   go_ret
   exact⟨by rw[HE.out];rfl,rfl⟩
  ·have HE:=hid (show numEnd s A=expEnd s K by unfold numEnd;rw[hE,if_pos hd,if_neg (by rw[hK'];omega),hK'])
   have z3:((K:Int)==(A:Int))=false:=by rw[beq_eq_false_iff_ne];omega
   by_cases hz1:E=A
   ·have z1:((E:Int)==(A:Int))=true:=by rw[beq_iff_eq];omega
    have z2:((K:Int)==(E:Int)+1)=false:=by rw[beq_eq_false_iff_ne];omega
    clear hE hd hK hK' hz hz1
    go_enter Tryz.func111,Tryz.ntmps111
    go_wp2_with fail
    refine(spec_digits s _ _ hs).mono ?_
    rintro e w' ⟨he,rfl⟩
    rw[H1.out]at he
    subst he
    go_wp2_with fail
    refine(spec_byte s _ _ hs).mono ?_
    rintro e w' ⟨rfl,rfl⟩
    go_wp2_with fail
    refine(spec_digits s _ _ hs).mono ?_
    rintro e w' ⟨he,rfl⟩
    rw[H2.out]at he
    subst he
    go_wp2_with fail
    by_cases h1:byteZ s K=101∨byteZ s K=69
    ·have hltF:(K:Int)<(s.size:Int):=(byte_range (s:=s) (i:=K) (by omega)).2
     have hy:=yes_facts (by decide) h1
     by_cases h2:byteZ s (K+1)=43∨byteZ s (K+1)=45
     ·have hz:=yes_facts (by decide) h2
      have y:(K:Int)+1<(s.size:Int):=(byte_range (s:=s) (i:=K+1) (by omega)).2
      by_cases h3:runEnd chars.isDigit s (K+1+1)>K+1+1
      ·have HX:=hid (show numEnd s A=runEnd chars.isDigit s (K+1+1) by rw[HE.out];unfold expEnd;rw[if_pos h1,if_pos h2,if_pos h3])
       have j:(K:Int)+1+1<runEnd chars.isDigit s (K+1+1):=h3
       clear h1 h2 h3
       rcases hy with ⟨a1,a2,a3,a4⟩|⟨a1,a2,a3,a4⟩<;>rcases hz with ⟨c1,c2,c3,c4⟩|⟨c1,c2,c3,c4⟩
       all_goals
        go_wp2_with (first|(go_at_call 176;refine(spec_byte s _ _ hs).mono ?_;rintro e w' ⟨rfl,rfl⟩)|(go_at_call 175;refine(spec_digits s _ _ hs).mono ?_;rintro e w' ⟨rfl,rfl⟩))
        go_ret
        exact⟨by rw[HX.out];rfl,rfl⟩
      ·have HX:=hid (show numEnd s A=K by rw[HE.out];unfold expEnd;rw[if_pos h1,if_pos h2,if_neg h3])
       have j:runEnd chars.isDigit s (K+1+1)≤(K:Int)+1+1:=by omega
       clear h1 h2 h3
       rcases hy with ⟨a1,a2,a3,a4⟩|⟨a1,a2,a3,a4⟩<;>rcases hz with ⟨c1,c2,c3,c4⟩|⟨c1,c2,c3,c4⟩
       all_goals
        go_wp2_with (first|(go_at_call 176;refine(spec_byte s _ _ hs).mono ?_;rintro e w' ⟨rfl,rfl⟩)|(go_at_call 175;refine(spec_digits s _ _ hs).mono ?_;rintro e w' ⟨rfl,rfl⟩))
        go_ret
        exact⟨by rw[HX.out];rfl,rfl⟩
     ·obtain⟨c1,c2,c3,c4⟩:=no_facts h2
      by_cases h3:runEnd chars.isDigit s (K+1)>K+1
      ·have HX:=hid (show numEnd s A=runEnd chars.isDigit s (K+1) by rw[HE.out];unfold expEnd;rw[if_pos h1,if_neg h2,if_pos h3])
       have j:(K:Int)+1<runEnd chars.isDigit s (K+1):=h3
       clear h1 h2 h3
       rcases hy with ⟨a1,a2,a3,a4⟩|⟨a1,a2,a3,a4⟩
       all_goals
        go_wp2_with (first|(go_at_call 176;refine(spec_byte s _ _ hs).mono ?_;rintro e w' ⟨rfl,rfl⟩)|(go_at_call 175;refine(spec_digits s _ _ hs).mono ?_;rintro e w' ⟨rfl,rfl⟩))
        go_ret
        exact⟨by rw[HX.out];rfl,rfl⟩
      ·have HX:=hid (show numEnd s A=K by rw[HE.out];unfold expEnd;rw[if_pos h1,if_neg h2,if_neg h3])
       have j:runEnd chars.isDigit s (K+1)≤(K:Int)+1:=by omega
       clear h1 h2 h3
       rcases hy with ⟨a1,a2,a3,a4⟩|⟨a1,a2,a3,a4⟩
       all_goals
        go_wp2_with (first|(go_at_call 176;refine(spec_byte s _ _ hs).mono ?_;rintro e w' ⟨rfl,rfl⟩)|(go_at_call 175;refine(spec_digits s _ _ hs).mono ?_;rintro e w' ⟨rfl,rfl⟩))
        go_ret
        exact⟨by rw[HX.out];rfl,rfl⟩
    ·have HX:=hid (show numEnd s A=K by rw[HE.out];unfold expEnd;rw[if_neg h1])
     obtain⟨a1,a2,a3,a4⟩:=no_facts h1
     clear h1
     go_wp2_with (first|(go_at_call 176;refine(spec_byte s _ _ hs).mono ?_;rintro e w' ⟨rfl,rfl⟩)|(go_at_call 175;refine(spec_digits s _ _ hs).mono ?_;rintro e w' ⟨rfl,rfl⟩))
     go_ret
     exact⟨by rw[HX.out];rfl,rfl⟩
   ·have z1:((E:Int)==(A:Int))=false:=by rw[beq_eq_false_iff_ne];omega
    clear hE hd hK hK' hz hz1
    go_enter Tryz.func111,Tryz.ntmps111
    go_wp2_with fail
    refine(spec_digits s _ _ hs).mono ?_
    rintro e w' ⟨he,rfl⟩
    rw[H1.out]at he
    subst he
    go_wp2_with fail
    refine(spec_byte s _ _ hs).mono ?_
    rintro e w' ⟨rfl,rfl⟩
    go_wp2_with fail
    refine(spec_digits s _ _ hs).mono ?_
    rintro e w' ⟨he,rfl⟩
    rw[H2.out]at he
    subst he
    go_wp2_with fail
    by_cases h1:byteZ s K=101∨byteZ s K=69
    ·have hltF:(K:Int)<(s.size:Int):=(byte_range (s:=s) (i:=K) (by omega)).2
     have hy:=yes_facts (by decide) h1
     by_cases h2:byteZ s (K+1)=43∨byteZ s (K+1)=45
     ·have hz:=yes_facts (by decide) h2
      have y:(K:Int)+1<(s.size:Int):=(byte_range (s:=s) (i:=K+1) (by omega)).2
      by_cases h3:runEnd chars.isDigit s (K+1+1)>K+1+1
      ·have HX:=hid (show numEnd s A=runEnd chars.isDigit s (K+1+1) by rw[HE.out];unfold expEnd;rw[if_pos h1,if_pos h2,if_pos h3])
       have j:(K:Int)+1+1<runEnd chars.isDigit s (K+1+1):=h3
       clear h1 h2 h3
       rcases hy with ⟨a1,a2,a3,a4⟩|⟨a1,a2,a3,a4⟩<;>rcases hz with ⟨c1,c2,c3,c4⟩|⟨c1,c2,c3,c4⟩
       all_goals
        go_wp2_with (first|(go_at_call 176;refine(spec_byte s _ _ hs).mono ?_;rintro e w' ⟨rfl,rfl⟩)|(go_at_call 175;refine(spec_digits s _ _ hs).mono ?_;rintro e w' ⟨rfl,rfl⟩))
        go_ret
        exact⟨by rw[HX.out];rfl,rfl⟩
      ·have HX:=hid (show numEnd s A=K by rw[HE.out];unfold expEnd;rw[if_pos h1,if_pos h2,if_neg h3])
       have j:runEnd chars.isDigit s (K+1+1)≤(K:Int)+1+1:=by omega
       clear h1 h2 h3
       rcases hy with ⟨a1,a2,a3,a4⟩|⟨a1,a2,a3,a4⟩<;>rcases hz with ⟨c1,c2,c3,c4⟩|⟨c1,c2,c3,c4⟩
       all_goals
        go_wp2_with (first|(go_at_call 176;refine(spec_byte s _ _ hs).mono ?_;rintro e w' ⟨rfl,rfl⟩)|(go_at_call 175;refine(spec_digits s _ _ hs).mono ?_;rintro e w' ⟨rfl,rfl⟩))
        go_ret
        exact⟨by rw[HX.out];rfl,rfl⟩
     ·obtain⟨c1,c2,c3,c4⟩:=no_facts h2
      by_cases h3:runEnd chars.isDigit s (K+1)>K+1
      ·have HX:=hid (show numEnd s A=runEnd chars.isDigit s (K+1) by rw[HE.out];unfold expEnd;rw[if_pos h1,if_neg h2,if_pos h3])
       have j:(K:Int)+1<runEnd chars.isDigit s (K+1):=h3
       clear h1 h2 h3
       rcases hy with ⟨a1,a2,a3,a4⟩|⟨a1,a2,a3,a4⟩
       all_goals
        go_wp2_with (first|(go_at_call 176;refine(spec_byte s _ _ hs).mono ?_;rintro e w' ⟨rfl,rfl⟩)|(go_at_call 175;refine(spec_digits s _ _ hs).mono ?_;rintro e w' ⟨rfl,rfl⟩))
        go_ret
        exact⟨by rw[HX.out];rfl,rfl⟩
      ·have HX:=hid (show numEnd s A=K by rw[HE.out];unfold expEnd;rw[if_pos h1,if_neg h2,if_neg h3])
       have j:runEnd chars.isDigit s (K+1)≤(K:Int)+1:=by omega
       clear h1 h2 h3
       rcases hy with ⟨a1,a2,a3,a4⟩|⟨a1,a2,a3,a4⟩
       all_goals
        go_wp2_with (first|(go_at_call 176;refine(spec_byte s _ _ hs).mono ?_;rintro e w' ⟨rfl,rfl⟩)|(go_at_call 175;refine(spec_digits s _ _ hs).mono ?_;rintro e w' ⟨rfl,rfl⟩))
        go_ret
        exact⟨by rw[HX.out];rfl,rfl⟩
    ·have HX:=hid (show numEnd s A=K by rw[HE.out];unfold expEnd;rw[if_neg h1])
     obtain⟨a1,a2,a3,a4⟩:=no_facts h1
     clear h1
     go_wp2_with (first|(go_at_call 176;refine(spec_byte s _ _ hs).mono ?_;rintro e w' ⟨rfl,rfl⟩)|(go_at_call 175;refine(spec_digits s _ _ hs).mono ?_;rintro e w' ⟨rfl,rfl⟩))
     go_ret
     exact⟨by rw[HX.out];rfl,rfl⟩
 ·obtain⟨d1,d2⟩:=ne_facts hd
  by_cases hz:E=A
  ·have HE:=hid (show numEnd s A= -1 by unfold numEnd;rw[hE,if_neg hd,if_pos (by omega)])
   have z1:((E:Int)==(A:Int))=true:=by rw[beq_iff_eq];omega
   clear hE hd hz
   go_enter Tryz.func111,Tryz.ntmps111
   go_wp2_with fail
   refine(spec_digits s _ _ hs).mono ?_
   rintro e w' ⟨he,rfl⟩
   rw[H1.out]at he
   subst he
   go_wp2_with fail
   refine(spec_byte s _ _ hs).mono ?_
   rintro e w' ⟨rfl,rfl⟩
   go_wp2
   go_ret
   exact⟨by rw[HE.out];rfl,rfl⟩
  ·have HE:=hid (show numEnd s A=expEnd s E by unfold numEnd;rw[hE,if_neg hd,if_neg (by omega)])
   have z1:((E:Int)==(A:Int))=false:=by rw[beq_eq_false_iff_ne];omega
   clear hE hd hz
   go_enter Tryz.func111,Tryz.ntmps111
   go_wp2_with fail
   refine(spec_digits s _ _ hs).mono ?_
   rintro e w' ⟨he,rfl⟩
   rw[H1.out]at he
   subst he
   go_wp2_with fail
   refine(spec_byte s _ _ hs).mono ?_
   rintro e w' ⟨rfl,rfl⟩
   go_wp2_with fail
   by_cases h1:byteZ s E=101∨byteZ s E=69
   ·have hltF:(E:Int)<(s.size:Int):=(byte_range (s:=s) (i:=E) (by omega)).2
    have hy:=yes_facts (by decide) h1
    by_cases h2:byteZ s (E+1)=43∨byteZ s (E+1)=45
    ·have hz:=yes_facts (by decide) h2
     have y:(E:Int)+1<(s.size:Int):=(byte_range (s:=s) (i:=E+1) (by omega)).2
     by_cases h3:runEnd chars.isDigit s (E+1+1)>E+1+1
     ·have HX:=hid (show numEnd s A=runEnd chars.isDigit s (E+1+1) by rw[HE.out];unfold expEnd;rw[if_pos h1,if_pos h2,if_pos h3])
      have j:(E:Int)+1+1<runEnd chars.isDigit s (E+1+1):=h3
      clear h1 h2 h3
      rcases hy with ⟨a1,a2,a3,a4⟩|⟨a1,a2,a3,a4⟩<;>rcases hz with ⟨c1,c2,c3,c4⟩|⟨c1,c2,c3,c4⟩
      all_goals
       go_wp2_with (first|(go_at_call 176;refine(spec_byte s _ _ hs).mono ?_;rintro e w' ⟨rfl,rfl⟩)|(go_at_call 175;refine(spec_digits s _ _ hs).mono ?_;rintro e w' ⟨rfl,rfl⟩))
       go_ret
       exact⟨by rw[HX.out];rfl,rfl⟩
     ·have HX:=hid (show numEnd s A=E by rw[HE.out];unfold expEnd;rw[if_pos h1,if_pos h2,if_neg h3])
      have j:runEnd chars.isDigit s (E+1+1)≤(E:Int)+1+1:=by omega
      clear h1 h2 h3
      rcases hy with ⟨a1,a2,a3,a4⟩|⟨a1,a2,a3,a4⟩<;>rcases hz with ⟨c1,c2,c3,c4⟩|⟨c1,c2,c3,c4⟩
      all_goals
       go_wp2_with (first|(go_at_call 176;refine(spec_byte s _ _ hs).mono ?_;rintro e w' ⟨rfl,rfl⟩)|(go_at_call 175;refine(spec_digits s _ _ hs).mono ?_;rintro e w' ⟨rfl,rfl⟩))
       go_ret
       exact⟨by rw[HX.out];rfl,rfl⟩
    ·obtain⟨c1,c2,c3,c4⟩:=no_facts h2
     by_cases h3:runEnd chars.isDigit s (E+1)>E+1
     ·have HX:=hid (show numEnd s A=runEnd chars.isDigit s (E+1) by rw[HE.out];unfold expEnd;rw[if_pos h1,if_neg h2,if_pos h3])
      have j:(E:Int)+1<runEnd chars.isDigit s (E+1):=h3
      clear h1 h2 h3
      rcases hy with ⟨a1,a2,a3,a4⟩|⟨a1,a2,a3,a4⟩
      all_goals
       go_wp2_with (first|(go_at_call 176;refine(spec_byte s _ _ hs).mono ?_;rintro e w' ⟨rfl,rfl⟩)|(go_at_call 175;refine(spec_digits s _ _ hs).mono ?_;rintro e w' ⟨rfl,rfl⟩))
       go_ret
       exact⟨by rw[HX.out];rfl,rfl⟩
     ·have HX:=hid (show numEnd s A=E by rw[HE.out];unfold expEnd;rw[if_pos h1,if_neg h2,if_neg h3])
      have j:runEnd chars.isDigit s (E+1)≤(E:Int)+1:=by omega
      clear h1 h2 h3
      rcases hy with ⟨a1,a2,a3,a4⟩|⟨a1,a2,a3,a4⟩
      all_goals
       go_wp2_with (first|(go_at_call 176;refine(spec_byte s _ _ hs).mono ?_;rintro e w' ⟨rfl,rfl⟩)|(go_at_call 175;refine(spec_digits s _ _ hs).mono ?_;rintro e w' ⟨rfl,rfl⟩))
       go_ret
       exact⟨by rw[HX.out];rfl,rfl⟩
   ·have HX:=hid (show numEnd s A=E by rw[HE.out];unfold expEnd;rw[if_neg h1])
    obtain⟨a1,a2,a3,a4⟩:=no_facts h1
    clear h1
    go_wp2_with (first|(go_at_call 176;refine(spec_byte s _ _ hs).mono ?_;rintro e w' ⟨rfl,rfl⟩)|(go_at_call 175;refine(spec_digits s _ _ hs).mono ?_;rintro e w' ⟨rfl,rfl⟩))
    go_ret
    exact⟨by rw[HX.out];rfl,rfl⟩
def RelQ(s:ByteArray)(g:Int)(A:Nat)(v:Value):Prop:=∃J:Nat,A+1≤J∧J≤s.size+1∧v= .int .i64 (J:Int)∧qEnd s g J=qEnd s g (A+1)
theorem impl_quoted(s:ByteArray)(i g:Int)(w:World)(hs:s.size≤1048576)(hg:g=34∨g=47):Calls Tryz.prog 163 #[.string s,.int .i64 i,.int .i64 g] w fun e w'=>e= .returned (.int .i64 (quoted s i g))∧w=w':=by
 have y:g≠10:=by omega
 have HG:=hid hg
 clear hg
 by_cases hb:byteZ s i=g
 ·have hr:=byte_range (s:=s) (i:=i) (by rw[hb];have:=HG.out;omega)
  obtain⟨A,rfl⟩:∃A:Nat,i=A:=⟨i.toNat,by omega⟩
  have hA:A<s.size:=by omega
  have HQ:=hid (quoted_in (s:=s) (I:=A) hb)
  obtain⟨b1,b2⟩:=eq_facts hb
  clear hb hr
  go_enter Tryz.func163,Tryz.ntmps163
  go_wp2_with (go_at_call 161;refine(impl_byte s _ _ hs).mono ?_;rintro e w' ⟨rfl,rfl⟩)
  go_loop [7] (fun j=>RelQ s g A j) (fun j=>((s.size:Int)+1-intOf j).toNat)
  case atStart=>exact⟨A+1,by omega,by omega,by go_num,rfl⟩
  case round=>
   obtain⟨J,hJ,hJs,rfl,hq⟩:=hrel
   by_cases hlt:J<s.size
   ·have hjb:=byte_in hlt
    have hlt':(J:Int)<(s.size:Int):=by omega
    by_cases c1:(s[J].toNat:Int)=g
    ·have HX:=hid ((q_sign hlt c1).symm.trans (hq.trans HQ.symm))
     obtain⟨d1,d2⟩:=eq_facts (hjb.trans c1)
     clear hq c1 hjb y
     go_wp2_with (go_at_call 161;refine(impl_byte s _ _ hs).mono ?_;rintro e w' ⟨rfl,rfl⟩)
     go_ret
     exact⟨by rw[←HX.out];rfl,rfl⟩
    ·obtain⟨d1,d2⟩:=ne_facts (show¬byteZ s J=g by rw[hjb];exact c1)
     by_cases c2:(s[J].toNat:Int)=10
     ·have HX:=hid ((q_line hlt c1 c2).symm.trans (hq.trans HQ.symm))
      obtain⟨d3,d4⟩:=eq_facts (hjb.trans c2)
      clear hq c1 c2 hjb y
      go_wp2_with (go_at_call 161;refine(impl_byte s _ _ hs).mono ?_;rintro e w' ⟨rfl,rfl⟩)
      go_ret
      exact⟨by rw[←HX.out];rfl,rfl⟩
     ·obtain⟨d3,d4⟩:=ne_facts (show¬byteZ s J=10 by rw[hjb];exact c2)
      by_cases c3:(s[J].toNat:Int)=92
      ·obtain⟨d5,d6⟩:=eq_facts (hjb.trans c3)
       by_cases c4:byteZ s (J+1)=10
       ·have HX:=hid ((q_esc_then y hlt c1 c3 c4).symm.trans hq)
        obtain⟨d7,d8⟩:=eq_facts c4
        clear hq c1 c2 c3 c4 hjb y
        go_wp2_with (go_at_call 161;refine(impl_byte s _ _ hs).mono ?_;rintro e w' ⟨rfl,rfl⟩)
        go_round
        case rel=>exact⟨J+1,by omega,by omega,by go_num,HX.out⟩
        case measure=>simp[intOf];omega
       ·have HX:=hid ((q_esc hlt c1 c3 c4).symm.trans hq)
        obtain⟨d7,d8⟩:=ne_facts c4
        clear hq c1 c2 c3 c4 hjb y
        go_wp2_with (go_at_call 161;refine(impl_byte s _ _ hs).mono ?_;rintro e w' ⟨rfl,rfl⟩)
        go_round
        case rel=>exact⟨J+2,by omega,by omega,by go_num,HX.out⟩
        case measure=>simp[intOf];omega
      ·obtain⟨d5,d6⟩:=ne_facts (show¬byteZ s J=92 by rw[hjb];exact c3)
       have HX:=hid ((q_next hlt c1 c2 c3).symm.trans hq)
       clear hq c1 c2 c3 hjb y
       go_wp2_with (go_at_call 161;refine(impl_byte s _ _ hs).mono ?_;rintro e w' ⟨rfl,rfl⟩)
       go_round
       case rel=>exact⟨J+1,by omega,by omega,by go_num,HX.out⟩
       case measure=>simp[intOf];omega
   ·have HX:=hid ((q_end hlt).symm.trans (hq.trans HQ.symm))
    have hge:(s.size:Int)≤(J:Int):=by omega
    clear hq y
    go_wp2
    go_ret
    exact⟨by rw[←HX.out];rfl,rfl⟩
 ·have HQ:=hid (quoted_out hb)
  obtain⟨b1,b2⟩:=ne_facts hb
  clear hb y
  go_enter Tryz.func163,Tryz.ntmps163
  go_wp2_with (go_at_call 161;refine(impl_byte s _ _ hs).mono ?_;rintro e w' ⟨rfl,rfl⟩)
  go_ret
  exact⟨by rw[HQ.out];rfl,rfl⟩
theorem spec_quoted(s:ByteArray)(i g:Int)(w:World)(hs:s.size≤1048576)(hg:g=34∨g=47):Calls Tryz.prog 177 #[.string s,.int .i64 i,.int .i64 g] w fun e w'=>e= .returned (.int .i64 (quoted s i g))∧w=w':=by
 have HG:=hid hg
 clear hg
 by_cases hb:byteZ s i=g
 ·have hr:=byte_range (s:=s) (i:=i) (by rw[hb];have:=HG.out;omega)
  obtain⟨A,rfl⟩:∃A:Nat,i=A:=⟨i.toNat,by omega⟩
  have hA:A<s.size:=by omega
  have HQ:=hid (quoted_in (s:=s) (I:=A) hb)
  obtain⟨b1,b2⟩:=eq_facts hb
  clear hb hr
  go_enter Tryz.func177,Tryz.ntmps177
  go_wp2_with (go_at_call 176;refine(spec_byte s _ _ hs).mono ?_;rintro e w' ⟨rfl,rfl⟩)
  go_loop [7] (fun j=>RelQ s g A j) (fun j=>((s.size:Int)+1-intOf j).toNat)
  case atStart=>exact⟨A+1,by omega,by omega,by go_num,rfl⟩
  case round=>
   obtain⟨J,hJ,hJs,rfl,hq⟩:=hrel
   by_cases hlt:J<s.size
   ·have hc:=s[J].toNat_lt
    have hlt':(J:Int)<(s.size:Int):=by omega
    by_cases c1:(s[J].toNat:Int)=g
    ·have HX:=hid ((q_sign hlt c1).symm.trans (hq.trans HQ.symm))
     obtain⟨d1,d2⟩:=eq_facts c1
     clear hq c1
     go_wp2
     go_ret
     exact⟨by rw[←HX.out];rfl,rfl⟩
    ·obtain⟨d1,d2⟩:=ne_facts c1
     by_cases c2:(s[J].toNat:Int)=10
     ·have HX:=hid ((q_line hlt c1 c2).symm.trans (hq.trans HQ.symm))
      obtain⟨d3,d4⟩:=eq_facts c2
      clear hq c1 c2
      go_wp2
      go_ret
      exact⟨by rw[←HX.out];rfl,rfl⟩
     ·obtain⟨d3,d4⟩:=ne_facts c2
      by_cases c3:(s[J].toNat:Int)=92
      ·obtain⟨d5,d6⟩:=eq_facts c3
       by_cases c4:byteZ s (J+1)=10
       ·have HX:=hid ((q_esc_line hlt c1 c3 c4).symm.trans (hq.trans HQ.symm))
        obtain⟨d7,d8⟩:=eq_facts c4
        clear hq c1 c2 c3 c4
        go_wp2_with (go_at_call 176;refine(spec_byte s _ _ hs).mono ?_;rintro e w' ⟨rfl,rfl⟩)
        go_ret
        exact⟨by rw[←HX.out];rfl,rfl⟩
       ·have HX:=hid ((q_esc hlt c1 c3 c4).symm.trans hq)
        obtain⟨d7,d8⟩:=ne_facts c4
        clear hq c1 c2 c3 c4
        go_wp2_with (go_at_call 176;refine(spec_byte s _ _ hs).mono ?_;rintro e w' ⟨rfl,rfl⟩)
        go_round
        case rel=>exact⟨J+2,by omega,by omega,by go_num,HX.out⟩
        case measure=>simp[intOf];omega
      ·obtain⟨d5,d6⟩:=ne_facts c3
       have HX:=hid ((q_next hlt c1 c2 c3).symm.trans hq)
       clear hq c1 c2 c3
       go_wp2
       go_round
       case rel=>exact⟨J+1,by omega,by omega,by go_num,HX.out⟩
       case measure=>simp[intOf];omega
   ·have HX:=hid ((q_end hlt).symm.trans (hq.trans HQ.symm))
    have hge:(s.size:Int)≤(J:Int):=by omega
    clear hq
    go_wp2
    go_ret
    exact⟨by rw[←HX.out];rfl,rfl⟩
 ·have HQ:=hid (quoted_out hb)
  obtain⟨b1,b2⟩:=ne_facts hb
  clear hb
  go_enter Tryz.func177,Tryz.ntmps177
  go_wp2_with (go_at_call 176;refine(spec_byte s _ _ hs).mono ?_;rintro e w' ⟨rfl,rfl⟩)
  go_ret
  exact⟨by rw[HQ.out];rfl,rfl⟩
theorem impl_str(s:ByteArray)(i:Int)(w:World)(hs:s.size≤1048576):Calls Tryz.prog 103 #[.string s,.int .i64 i] w fun e w'=>e= .returned (.int .i64 (strEnd s i))∧w=w':=by
 go_enter Tryz.func103,Tryz.ntmps103
 go_wp2_with fail
 refine(impl_quoted s _ _ _ hs (.inl rfl)).mono ?_
 rintro e w' ⟨rfl,rfl⟩
 go_wp2
 go_ret
 exact⟨rfl,rfl⟩
theorem spec_str(s:ByteArray)(i:Int)(w:World)(hs:s.size≤1048576):Calls Tryz.prog 112 #[.string s,.int .i64 i] w fun e w'=>e= .returned (.int .i64 (strEnd s i))∧w=w':=by
 go_enter Tryz.func112,Tryz.ntmps112
 go_wp2_with fail
 refine(spec_quoted s _ _ _ hs (.inl rfl)).mono ?_
 rintro e w' ⟨rfl,rfl⟩
 go_wp2
 go_ret
 exact⟨rfl,rfl⟩
theorem quoted_far{s:ByteArray}{i g:Int}(hg:g=34∨g=47)(h:i<0∨(s.size:Int)≤i):quoted s i g= -1:=
 quoted_out (by rw[byte_out h];omega)
theorem impl_ere(s:ByteArray)(i:Int)(w:World)(hs:s.size≤1048576):Calls Tryz.prog 104 #[.string s,.int .i64 i] w fun e w'=>e= .returned (.int .i64 (ereEnd s i))∧w=w':=by
 by_cases h0:i<0∨(s.size:Int)≤i
 ·have HQ:=hid (quoted_far (s:=s) (g:=47) (.inr rfl) h0)
  have HE:=hid (show ereEnd s i= -1 by unfold ereEnd;rw[HQ.out];split<;>rfl)
  clear h0
  by_cases hz:(-1:Int)=wrap64 (i+2)
  ·obtain⟨d1,d2⟩:=eq_facts hz
   clear hz
   go_enter Tryz.func104,Tryz.ntmps104
   go_wp2_with fail
   refine(impl_quoted s _ _ _ hs (.inr rfl)).mono ?_
   rintro e w' ⟨he,rfl⟩
   rw[HQ.out]at he
   subst he
   go_wp2
   all_goals
    go_ret
    exact⟨by rw[HE.out];rfl,rfl⟩
  ·obtain⟨d1,d2⟩:=ne_facts hz
   clear hz
   go_enter Tryz.func104,Tryz.ntmps104
   go_wp2_with fail
   refine(impl_quoted s _ _ _ hs (.inr rfl)).mono ?_
   rintro e w' ⟨he,rfl⟩
   rw[HQ.out]at he
   subst he
   go_wp2
   all_goals
    go_ret
    exact⟨by rw[HE.out];rfl,rfl⟩
 ·obtain⟨A,rfl⟩:∃A:Nat,i=A:=⟨i.toNat,by omega⟩
  have hA:A<s.size:=by omega
  clear h0
  by_cases hz:quoted s A 47=(A:Int)+2
  ·have HE:=hid (show ereEnd s A= -1 by unfold ereEnd;rw[if_pos hz])
   obtain⟨d1,d2⟩:=eq_facts hz
   clear hz
   go_enter Tryz.func104,Tryz.ntmps104
   go_wp2_with fail
   refine(impl_quoted s _ _ _ hs (.inr rfl)).mono ?_
   rintro e w' ⟨rfl,rfl⟩
   go_wp2
   go_ret
   exact⟨by rw[HE.out];rfl,rfl⟩
  ·have HE:=hid (show ereEnd s A=quoted s A 47 by unfold ereEnd;rw[if_neg hz])
   obtain⟨d1,d2⟩:=ne_facts hz
   clear hz
   go_enter Tryz.func104,Tryz.ntmps104
   go_wp2_with fail
   refine(impl_quoted s _ _ _ hs (.inr rfl)).mono ?_
   rintro e w' ⟨rfl,rfl⟩
   go_wp2
   go_ret
   exact⟨by rw[HE.out];rfl,rfl⟩
theorem spec_ere(s:ByteArray)(i:Int)(w:World)(hs:s.size≤1048576):Calls Tryz.prog 113 #[.string s,.int .i64 i] w fun e w'=>e= .returned (.int .i64 (ereEnd s i))∧w=w':=by
 by_cases h0:i<0∨(s.size:Int)≤i
 ·have HQ:=hid (quoted_far (s:=s) (g:=47) (.inr rfl) h0)
  have HE:=hid (show ereEnd s i= -1 by unfold ereEnd;rw[HQ.out];split<;>rfl)
  clear h0
  by_cases hz:(-1:Int)=wrap64 (i+2)
  ·obtain⟨d1,d2⟩:=eq_facts hz
   clear hz
   go_enter Tryz.func113,Tryz.ntmps113
   go_wp2_with fail
   refine(spec_quoted s _ _ _ hs (.inr rfl)).mono ?_
   rintro e w' ⟨he,rfl⟩
   rw[HQ.out]at he
   subst he
   go_wp2
   all_goals
    go_ret
    exact⟨by rw[HE.out];rfl,rfl⟩
  ·obtain⟨d1,d2⟩:=ne_facts hz
   clear hz
   go_enter Tryz.func113,Tryz.ntmps113
   go_wp2_with fail
   refine(spec_quoted s _ _ _ hs (.inr rfl)).mono ?_
   rintro e w' ⟨he,rfl⟩
   rw[HQ.out]at he
   subst he
   go_wp2
   all_goals
    go_ret
    exact⟨by rw[HE.out];rfl,rfl⟩
 ·obtain⟨A,rfl⟩:∃A:Nat,i=A:=⟨i.toNat,by omega⟩
  have hA:A<s.size:=by omega
  clear h0
  by_cases hz:quoted s A 47=(A:Int)+2
  ·have HE:=hid (show ereEnd s A= -1 by unfold ereEnd;rw[if_pos hz])
   obtain⟨d1,d2⟩:=eq_facts hz
   clear hz
   go_enter Tryz.func113,Tryz.ntmps113
   go_wp2_with fail
   refine(spec_quoted s _ _ _ hs (.inr rfl)).mono ?_
   rintro e w' ⟨rfl,rfl⟩
   go_wp2
   go_ret
   exact⟨by rw[HE.out];rfl,rfl⟩
  ·have HE:=hid (show ereEnd s A=quoted s A 47 by unfold ereEnd;rw[if_neg hz])
   obtain⟨d1,d2⟩:=ne_facts hz
   clear hz
   go_enter Tryz.func113,Tryz.ntmps113
   go_wp2_with fail
   refine(spec_quoted s _ _ _ hs (.inr rfl)).mono ?_
   rintro e w' ⟨rfl,rfl⟩
   go_wp2
   go_ret
   exact⟨by rw[HE.out];rfl,rfl⟩
end Go.Proofs.YtnoagleifffkcaaGreatDoor.scan

namespace Go.Proofs.YtnoagleifffkcaaGreatDoor.ops
open Go.ChangeShapes Go.WideShapes Go.ChangeAt Go.RowKit
open toks (signs)
open spell (Held)
open scan (eq_facts ne_facts)
set_option linter.unusedVariables false
set_option maxRecDepth 20000
def signAt(k:Nat):ByteArray:=signs.getD k ⟨#[]⟩
theorem sign_bd:∀k,k<39→1≤(signAt k).size∧(signAt k).size≤2:=by decide+kernel
def here(s:ByteArray)(i:Int)(p:ByteArray):Bool:=decide (0≤i)&&(decide (i≤s.size)&&Lib.hasPrefix (s.data.toList.drop i.toNat) p.data.toList)
theorem here_neg{s:ByteArray}{i:Int}{p:ByteArray}(h:i<0):here s i p=false:=by
 unfold here
 rw[show decide (0≤i)=false by rw[decide_eq_false_iff_not];omega]
 rfl
theorem here_far{s:ByteArray}{i:Int}{p:ByteArray}(h:(s.size:Int)<i):here s i p=false:=by
 unfold here
 rw[show decide (i≤(s.size:Int))=false by rw[decide_eq_false_iff_not];omega]
 simp
theorem here_in{s:ByteArray}{A:Nat}{p:ByteArray}(h:A≤s.size):here s A p=Lib.hasPrefix (s.data.toList.drop A) p.data.toList:=by
 unfold here
 simp[h]
theorem rest_data(s:ByteArray)(A:Nat):(s.extract A s.size).data.toList=s.data.toList.drop A:=by
 rw[Lib.extract_data,List.take_of_length_le]
 simp
theorem here_rest{s:ByteArray}{A:Nat}{p:ByteArray}(h:A≤s.size):here s A p=Lib.hasPrefix (s.extract A s.size).data.toList p.data.toList:=by
 rw[here_in h,rest_data]
theorem here_cut{s:ByteArray}{A:Nat}{p:ByteArray}(h:A≤s.size):here s A p=(decide ((p.size:Int)≤(s.size:Int)-A)&&((s.extract A (A+p.size)).toList==p.toList)):=by
 rw[here_in h,←Lib.hasPrefix_of_take,ByteArray.toList_eq,ByteArray.toList_eq,Lib.extract_data]
 have h1:(s.data.toList.drop A).length=s.size-A:=by simp
 have h2:p.data.toList.length=p.size:=rfl
 rw[h1,h2,show A+p.size-A=p.size by omega]
 congr 1
 rw[Bool.eq_iff_iff]
 simp
 omega
def opTo(s:ByteArray)(i:Int):Nat→Int×Int
 |0=>(0,0)
 |k+1=>if here s i (signAt k)=true∧(opTo s i k).2<((signAt k).size:Int)then((k:Int)+30,((signAt k).size:Int))else opTo s i k
def opAt(s:ByteArray)(i:Int):Int×Int:=opTo s i 39
theorem op_yes{s:ByteArray}{i:Int}{k:Nat}(h1:here s i (signAt k)=true)(h2:(opTo s i k).2<((signAt k).size:Int)):opTo s i (k+1)=((k:Int)+30,((signAt k).size:Int)):=by
 rw[opTo,if_pos ⟨h1,h2⟩]
theorem op_no{s:ByteArray}{i:Int}{k:Nat}(h1:¬(here s i (signAt k)=true∧(opTo s i k).2<((signAt k).size:Int))):opTo s i (k+1)=opTo s i k:=by
 rw[opTo,if_neg h1]
theorem op_bd(s:ByteArray)(i:Int):∀k,k≤39→0≤(opTo s i k).1∧(opTo s i k).1≤68∧0≤(opTo s i k).2∧(opTo s i k).2≤2
 |0,_=>by simp[opTo]
 |k+1,h=>by
  have:=op_bd s i k (by omega)
  have:=sign_bd k (by omega)
  rw[opTo]
  split
  ·simp only;omega
  ·exact op_bd s i k (by omega)
theorem op_out(s:ByteArray)(i:Int)(h:i<0∨(s.size:Int)≤i):∀k,k≤39→opTo s i k=(0,0)
 |0,_=>rfl
 |k+1,hk=>by
  have hb:=sign_bd k (by omega)
  rw[op_no]
  ·exact op_out s i h k (by omega)
  ·rintro⟨h1,-⟩
   have:here s i (signAt k)=false:=by
    rcases h with h|h
    ·exact here_neg h
    ·rcases Int.lt_or_eq_of_le h with h|h
     ·exact here_far h
     ·subst h
      rw[here_cut (Nat.le_refl _)]
      rw[show decide (((signAt k).size:Int)≤(s.size:Int)-(s.size:Int))=false by rw[decide_eq_false_iff_not];omega]
      rfl
   rw[this]at h1
   cases h1
theorem prefix_any(s p:ByteArray)(w:World):Calls Tryz.prog 100 #[.string s,.string p] w fun e w'=>e= .returned (.bool (Lib.hasPrefix s.data.toList p.data.toList))∧w=w':=
 (Tryz.strings_HasPrefix s p w).mono fun _ _ h=>⟨h.1,h.2.symm⟩
theorem contains_any(s:ByteArray)(c:UInt8)(w:World):Calls Tryz.prog 101 #[.string s,.string ⟨#[c]⟩] w fun e w'=>e= .returned (.bool (decide (0≤Lib.indexByte s.data.toList c)))∧w=w':=
 (Tryz.strings_Contains_one s c w).mono fun _ _ h=>⟨h.1,h.2.symm⟩
def RelO(s:ByteArray)(i:Int)(k n c:Value):Prop:=∃K:Nat,K≤39∧c= .int .i64 ((K:Int)+30)∧k= .int .i64 (opTo s i K).1∧n= .int .i64 (opTo s i K).2
theorem below_drewN{B:Nat}{w w1:World}(h:Below B w w1)(n:Nat):Below B w (w1.drewN n):=⟨h.os,h.tape,h.output,h.size,h.block⟩
def RelS(s:ByteArray)(i:Int)(w1:World)(k n c:Value)(wr:World):Prop:=
 ∃K:Nat,K≤39∧c= .int .i64 (K:Int)∧k= .int .i64 (opTo s i K).1∧n= .int .i64 (opTo s i K).2∧Below w1.heap.size w1 wr
end Go.Proofs.YtnoagleifffkcaaGreatDoor.ops

namespace Go.Proofs.YtnoagleifffkcaaGreatDoor.tok
open Lib (hid)
open Go.ChangeShapes Go.WideShapes Go.ChangeAt Go.RowKit
open spell (Held)
open scan (eq_facts ne_facts)
set_option linter.unusedVariables false
set_option maxRecDepth 20000
def comment(s:ByteArray):Bool:=Lib.hasPrefix s.data.toList [35]&& !decide (0≤Lib.indexByte s.data.toList 10)
def tokOk(k:Int)(s:ByteArray):Bool:=
 if k=2 then comment s
 else if k=3 then scan.numEnd s 0==(s.size:Int)
 else if k=4 then scan.strEnd s 0==(s.size:Int)
 else if k=5 then scan.ereEnd s 0==(s.size:Int)
 else if k=6∨k=7 then spell.nameOk s
 else if k=8 then toks.isBuiltin s
 else !s.toList.isEmpty&&(s.toList==(spell.spell k).toList)
theorem below_drewN{B:Nat}{w w1:World}(h:Below B w w1)(n:Nat):Below B w (w1.drewN n):=⟨h.os,h.tape,h.output,h.size,h.block⟩
theorem below_box(w:World)(c:Obj):Below w.heap.size w (w.alloc c):=(Below.refl _ _).alloc (Nat.le_refl _) _
theorem hash_any(s:ByteArray)(w:World):Calls Tryz.prog 100 #[.string s,.string ⟨#[35]⟩] w fun e w'=>e= .returned (.bool (Lib.hasPrefix s.data.toList [35]))∧w=w':=ops.prefix_any s ⟨#[35]⟩ w
set_option maxHeartbeats 1600000 in
theorem impl_tok(k a:Int)(s:ByteArray)(w:World)(hs:s.size≤1048576)(hh:Held w):Calls Tryz.prog 60 #[.agg #[.int .i64 k,.string s,.int .i64 a]] w fun e w'=>e= .returned (.bool (tokOk k s))∧Below w.heap.size w w':=by
 have HH:=hid hh
 clear hh
 by_cases h2:k=2
 ·subst h2
  cases hp:Lib.hasPrefix s.data.toList [35]
  ·have HE:=hid (show tokOk 2 s=false by show comment s=false;unfold comment;rw[hp];rfl)
   go_enter Tryz.func60,Tryz.ntmps60
   go_wp2_with (go_at_call 100;refine(hash_any _ _).mono ?_;rintro e w' ⟨rfl,rfl⟩)
   go_ret
   exact⟨by rw[HE.out];rfl,below_box _ _⟩
  ·have HE:=hid (show tokOk 2 s= !decide (0≤Lib.indexByte s.data.toList 10) by show comment s=_;unfold comment;rw[hp];rfl)
   go_enter Tryz.func60,Tryz.ntmps60
   go_wp2_with (first|(go_at_call 100;refine(hash_any _ _).mono ?_;rintro e w' ⟨rfl,rfl⟩)|(go_at_call 101;refine(ops.contains_any _ _ _).mono ?_;rintro e w' ⟨rfl,rfl⟩))
   go_ret
   exact⟨by rw[HE.out];rfl,below_box _ _⟩
 by_cases h3:k=3
 ·subst h3
  have HE:=hid (show tokOk 3 s=(scan.numEnd s 0==(s.size:Int))from rfl)
  go_enter Tryz.func60,Tryz.ntmps60
  go_wp2
  go_quiet ((go_at_call 102;exact Calls.quiet_of_same ((scan.impl_num s 0 _ hs).mono fun _ _ h=>⟨h.1,h.2.symm⟩)))
  go_wp2
  go_ret
  exact⟨by rw[HE.out];rfl,below_drewN (below_box _ _) _⟩
 by_cases h4:k=4
 ·subst h4
  have HE:=hid (show tokOk 4 s=(scan.strEnd s 0==(s.size:Int))from rfl)
  go_enter Tryz.func60,Tryz.ntmps60
  go_wp2
  go_quiet ((go_at_call 103;exact Calls.quiet_of_same ((scan.impl_str s 0 _ hs).mono fun _ _ h=>⟨h.1,h.2.symm⟩)))
  go_wp2
  go_ret
  exact⟨by rw[HE.out];rfl,below_drewN (below_box _ _) _⟩
 by_cases h5:k=5
 ·subst h5
  have HE:=hid (show tokOk 5 s=(scan.ereEnd s 0==(s.size:Int))from rfl)
  go_enter Tryz.func60,Tryz.ntmps60
  go_wp2
  go_quiet ((go_at_call 104;exact Calls.quiet_of_same ((scan.impl_ere s 0 _ hs).mono fun _ _ h=>⟨h.1,h.2.symm⟩)))
  go_wp2
  go_ret
  exact⟨by rw[HE.out];rfl,below_drewN (below_box _ _) _⟩
 by_cases h6:k=6
 ·subst h6
  have HE:=hid (show tokOk 6 s=spell.nameOk s from rfl)
  go_enter Tryz.func60,Tryz.ntmps60
  go_wp2_with (go_at_call 105;refine(spell.impl_name s _ hs (HH.below (below_box _ _))).mono ?_;rintro e w' ⟨rfl,rfl⟩)
  go_ret
  exact⟨by rw[HE.out];rfl,below_box _ _⟩
 by_cases h7:k=7
 ·subst h7
  have HE:=hid (show tokOk 7 s=spell.nameOk s from rfl)
  go_enter Tryz.func60,Tryz.ntmps60
  go_wp2_with (go_at_call 105;refine(spell.impl_name s _ hs (HH.below (below_box _ _))).mono ?_;rintro e w' ⟨rfl,rfl⟩)
  go_ret
  exact⟨by rw[HE.out];rfl,below_box _ _⟩
 by_cases h8:k=8
 ·subst h8
  have HE:=hid (show tokOk 8 s=toks.isBuiltin s from rfl)
  go_enter Tryz.func60,Tryz.ntmps60
  go_wp2_with (go_at_call 106;refine(toks.impl_builtin s _).mono ?_;rintro e w' ⟨rfl,rfl⟩)
  go_ret
  exact⟨by rw[HE.out];rfl,below_box _ _⟩
 have HD:=hid (show tokOk k s=(!s.toList.isEmpty&&(s.toList==(spell.spell k).toList)) by simp[tokOk,h2,h3,h4,h5,h6,h7,h8])
 obtain⟨d2,-⟩:=ne_facts h2
 obtain⟨d3,-⟩:=ne_facts h3
 obtain⟨d4,-⟩:=ne_facts h4
 obtain⟨d5,-⟩:=ne_facts h5
 obtain⟨d6,-⟩:=ne_facts h6
 obtain⟨d7,-⟩:=ne_facts h7
 obtain⟨d8,-⟩:=ne_facts h8
 clear h2 h3 h4 h5 h6 h7 h8
 cases he:s.toList.isEmpty
 ·have HE:=hid (show tokOk k s=(s.toList==(spell.spell k).toList) by rw[HD.out,he];rfl)
  have he':¬s.toList=[]:=by intro h;rw[h]at he;cases he
  go_enter Tryz.func60,Tryz.ntmps60
  go_wp2
  go_quiet ((go_at_call 93;exact Calls.quiet_of_same ((spell.impl_spell k _ (HH.below (below_drewN (below_box _ _) _))).mono fun _ _ h=>⟨h.1,h.2.symm⟩)))
  go_wp2
  go_ret
  exact⟨by rw[HE.out];rfl,below_drewN (below_box _ _) _⟩
 ·have HE:=hid (show tokOk k s=false by rw[HD.out,he];rfl)
  have he':s.toList=[]:=by simpa using he
  go_enter Tryz.func60,Tryz.ntmps60
  go_wp2
  go_quiet (fail)
  go_wp2
  go_ret
  exact⟨by rw[HE.out];rfl,below_drewN (below_box _ _) _⟩
def free10(s:ByteArray)(I:Nat):Prop:=∀j,j<I→s.data.toList[j]?≠some 10
theorem byte_get(s:ByteArray)(I:Nat)(h:I<s.size):s.data.toList[I]? =some s[I]:=by
 have:I<s.data.size:=h
 simp
 exact Array.getElem?_eq_getElem this
theorem free_step{s:ByteArray}{I:Nat}(h:I<s.size)(hf:free10 s I)(hb:¬(s[I].toNat:Int)=10):free10 s (I+1):=by
 intro j hj
 by_cases hjI:j<I
 ·exact hf j hjI
 ·obtain rfl:j=I:=by omega
  rw[byte_get s j h]
  intro e
  apply hb
  rw[Option.some.inj e]
  rfl
theorem free_end{s:ByteArray}(hf:free10 s s.size):decide (0≤Lib.indexByte s.data.toList 10)=false:=by
 rw[decide_eq_false_iff_not]
 intro h
 obtain⟨o,ho⟩:∃o:Nat,Lib.indexByte s.data.toList 10=o:=⟨(Lib.indexByte s.data.toList 10).toNat,by omega⟩
 obtain⟨h1,-⟩:=Lib.indexByte_some ho
 refine hf o ?_ h1
 have h2:o<s.data.toList.length:=by
  rcases Nat.lt_or_ge o s.data.toList.length with h|h
  ·exact h
  ·rw[List.getElem?_eq_none h]at h1;cases h1
 exact h2
theorem free_found{s:ByteArray}{I:Nat}(h:I<s.size)(hb:(s[I].toNat:Int)=10):decide (0≤Lib.indexByte s.data.toList 10)=true:=by
 rw[decide_eq_true_iff]
 have hge:=Lib.indexByte_ge s.data.toList 10
 rcases Int.lt_or_le (Lib.indexByte s.data.toList 10) 0 with h'|h'
 ·refine absurd (byte_get s I h) ?_
  have:s[I]=10:=UInt8.toNat_inj.1 (by show s[I].toNat=10;omega)
  rw[this]
  exact Lib.indexByte_none (by omega) I
 ·exact h'
def RelPlain(s:ByteArray)(i:Value):Prop:=∃I:Nat,I≤s.size∧i= .int .i64 (I:Int)∧free10 s I
theorem spec_plain(s:ByteArray)(w:World)(hs:s.size≤1048576):Calls Tryz.prog 110 #[.string s] w fun e w'=>e= .returned (.bool (!decide (0≤Lib.indexByte s.data.toList 10)))∧w=w':=by
 go_enter Tryz.func110,Tryz.ntmps110
 go_wp2
 go_loop [3] (fun i=>RelPlain s i) (fun i=>s.size-(intOf i).toNat)
 case atStart=>exact⟨0,by omega,rfl,fun j hj=>absurd hj (Nat.not_lt_zero j)⟩
 case round=>
  obtain⟨I,hI,rfl,hf⟩:=hrel
  have HF:=hid hf
  clear hf
  by_cases hlt:I<s.size
  ·have hc:=s[I].toNat_lt
   by_cases hb:(s[I].toNat:Int)=10
   ·have HS:=hid (free_found hlt hb)
    obtain⟨b1,b2⟩:=eq_facts hb
    clear hb
    go_wp2
    go_ret
    exact⟨by rw[HS.out];rfl,rfl⟩
   ·have HS:=hid (free_step hlt HF.out hb)
    obtain⟨b1,b2⟩:=ne_facts hb
    clear hb
    go_wp2
    go_round
    case rel=>exact⟨I+1,by omega,by go_num,HS.out⟩
    case measure=>simp[intOf];omega
  ·obtain rfl:I=s.size:=by omega
   have HS:=hid (free_end HF.out)
   go_wp2
   go_ret
   exact⟨by rw[HS.out];rfl,rfl⟩
theorem hash_empty{s:ByteArray}(h:s.size=0):Lib.hasPrefix s.data.toList [35]=false:=by
 have:s.data.toList=[]:=List.length_eq_zero_iff.1 h
 rw[this]
 rfl
theorem hash_head{s:ByteArray}(h:0<s.size):Lib.hasPrefix s.data.toList [35]=decide ((s[0].toNat:Int)=35):=by
 have hl:0<s.data.toList.length:=h
 have hg:=byte_get s 0 h
 cases e:s.data.toList with
 |nil=>rw[e]at hl;simp at hl
 |cons b t=>
  rw[e]at hg
  have hb:b=s[0]:=Option.some.inj hg
  subst hb
  unfold Lib.hasPrefix
  rw[Bool.eq_iff_iff]
  simp only[List.isPrefixOf,Bool.and_true,beq_iff_eq,decide_eq_true_eq]
  constructor
  ·intro h;rw[←h];rfl
  ·intro h;exact(UInt8.toNat_inj.1 (by show s[0].toNat=35;omega)).symm
theorem box_start(w:World)(k a:Int)(s:ByteArray)(t:TypeId):
  (w.alloc (.cells #[.int .i64 k,.string s,.int .i64 a] t)).cell? ⟨w.heap.size,0,none⟩=some (.int .i64 k)∧(w.alloc (.cells #[.int .i64 k,.string s,.int .i64 a] t)).cell? ⟨w.heap.size,1,none⟩=some (.string s)∧
   Below w.heap.size w (w.alloc (.cells #[.int .i64 k,.string s,.int .i64 a] t))∧w.heap.size<(w.alloc (.cells #[.int .i64 k,.string s,.int .i64 a] t)).heap.size:=by
 have hh:=heap_alloc_new w (.cells #[.int .i64 k,.string s,.int .i64 a] t)
 refine⟨?_, ?_,below_box _ _,by simp⟩
 ·rw[cell_of_row _ _ 0 _ _ _ hh];rfl
 ·rw[cell_of_row _ _ 1 _ _ _ hh];rfl
theorem box_keep{w W w1:World}{k:Int}{s:ByteArray}
  (h:W.cell? ⟨w.heap.size,0,none⟩=some (.int .i64 k)∧W.cell? ⟨w.heap.size,1,none⟩=some (.string s)∧Below w.heap.size w W∧w.heap.size<W.heap.size) (hb:Below W.heap.size W w1):
  w1.cell? ⟨w.heap.size,0,none⟩=some (.int .i64 k)∧w1.cell? ⟨w.heap.size,1,none⟩=some (.string s)∧Below w.heap.size w w1∧w.heap.size<w1.heap.size:=
 ⟨(hb.cell (p:=⟨w.heap.size,0,none⟩) h.2.2.2).trans h.1,(hb.cell (p:=⟨w.heap.size,1,none⟩) h.2.2.2).trans h.2.1,h.2.2.1.trans (hb.mono (Nat.le_of_lt h.2.2.2)),Nat.lt_of_lt_of_le h.2.2.2 hb.size⟩
theorem box_drew{w W:World}{k:Int}{s:ByteArray}
  (h:W.cell? ⟨w.heap.size,0,none⟩=some (.int .i64 k)∧W.cell? ⟨w.heap.size,1,none⟩=some (.string s)∧Below w.heap.size w W∧w.heap.size<W.heap.size):
  W.drew.cell? ⟨w.heap.size,0,none⟩=some (.int .i64 k)∧W.drew.cell? ⟨w.heap.size,1,none⟩=some (.string s)∧Below w.heap.size w W.drew∧w.heap.size<W.drew.heap.size:=
 ⟨h.1,h.2.1,h.2.2.1.drew,h.2.2.2⟩
set_option maxHeartbeats 1600000 in
theorem spec_tok(k a:Int)(s:ByteArray)(w:World)(hs:s.size≤1048576):Calls Tryz.prog 65 #[.agg #[.int .i64 k,.string s,.int .i64 a]] w fun e w'=>e= .returned (.bool (tokOk k s))∧Below w.heap.size w w':=by
 by_cases h2:k=2
 ·subst h2
  by_cases h0:s.size=0
  ·have HE:=hid (show tokOk 2 s=false by show comment s=false;unfold comment;rw[hash_empty h0];rfl)
   have z1:decide (0<s.size)=false:=by rw[decide_eq_false_iff_not];omega
   clear h0
   go_enter Tryz.func65,Tryz.ntmps65
   go_wp2
   go_ret
   exact⟨by rw[HE.out];rfl,below_box _ _⟩
  ·have hpos:0<s.size:=by omega
   have hc:=s[0].toNat_lt
   clear h0
   by_cases hp:(s[0].toNat:Int)=35
   ·have HE:=hid (show tokOk 2 s= !decide (0≤Lib.indexByte s.data.toList 10) by show comment s=_;unfold comment;rw[hash_head hpos,decide_eq_true hp];rfl)
    obtain⟨p1,p2⟩:=eq_facts hp
    clear hp
    go_enter Tryz.func65,Tryz.ntmps65
    go_wp2_with (go_at_call 110;refine(spec_plain _ _ hs).mono ?_;rintro e w' ⟨rfl,rfl⟩)
    go_ret
    exact⟨by rw[HE.out];rfl,below_box _ _⟩
   ·have HE:=hid (show tokOk 2 s=false by show comment s=_;unfold comment;rw[hash_head hpos,decide_eq_false hp];rfl)
    obtain⟨p1,p2⟩:=ne_facts hp
    clear hp
    go_enter Tryz.func65,Tryz.ntmps65
    go_wp2
    go_ret
    exact⟨by rw[HE.out];rfl,below_box _ _⟩
 by_cases h3:k=3
 ·subst h3
  by_cases h0:s.size=0
  ·have HE:=hid (show tokOk 3 s=false by show(scan.numEnd s 0==(s.size:Int))=false;rw[scan.num_out (.inr (by omega)),h0];rfl)
   have z1:decide (0<s.size)=false:=by rw[decide_eq_false_iff_not];omega
   clear h0
   go_enter Tryz.func65,Tryz.ntmps65
   go_wp2
   go_ret
   exact⟨by rw[HE.out];rfl,below_box _ _⟩
  ·have hpos:0<s.size:=by omega
   have HE:=hid (show tokOk 3 s=(scan.numEnd s 0==(s.size:Int))from rfl)
   clear h0
   go_enter Tryz.func65,Tryz.ntmps65
   go_wp2_with (go_at_call 111;refine(scan.spec_num s _ _ hs).mono ?_;rintro e w' ⟨rfl,rfl⟩)
   go_ret
   exact⟨by rw[HE.out];rfl,below_box _ _⟩
 by_cases h4:k=4
 ·subst h4
  have HE:=hid (show tokOk 4 s=(scan.strEnd s 0==(s.size:Int))from rfl)
  go_enter Tryz.func65,Tryz.ntmps65
  go_wp2_with (go_at_call 112;refine(scan.spec_str s _ _ hs).mono ?_;rintro e w' ⟨rfl,rfl⟩)
  go_ret
  exact⟨by rw[HE.out];rfl,below_box _ _⟩
 by_cases h5:k=5
 ·subst h5
  have HE:=hid (show tokOk 5 s=(scan.ereEnd s 0==(s.size:Int))from rfl)
  go_enter Tryz.func65,Tryz.ntmps65
  go_wp2_with (go_at_call 113;refine(scan.spec_ere s _ _ hs).mono ?_;rintro e w' ⟨rfl,rfl⟩)
  go_ret
  exact⟨by rw[HE.out];rfl,below_box _ _⟩
 by_cases h6:k=6
 ·subst h6
  have HE:=hid (show tokOk 6 s=spell.nameOk s from rfl)
  go_enter Tryz.func65,Tryz.ntmps65
  go_wp2_with fail
  refine(spell.spec_name s _ hs).mono ?_
  rintro e w1 ⟨rfl,b1⟩
  go_wp2
  go_ret
  exact⟨by rw[HE.out];rfl,(below_box w _).trans (b1.mono (by simp))⟩
 by_cases h7:k=7
 ·subst h7
  have HE:=hid (show tokOk 7 s=spell.nameOk s from rfl)
  go_enter Tryz.func65,Tryz.ntmps65
  go_wp2_with fail
  refine(spell.spec_name s _ hs).mono ?_
  rintro e w1 ⟨rfl,b1⟩
  go_wp2
  go_ret
  exact⟨by rw[HE.out];rfl,(below_box w _).trans (b1.mono (by simp))⟩
 by_cases h8:k=8
 ·subst h8
  have HE:=hid (show tokOk 8 s=toks.isBuiltin s from rfl)
  go_enter Tryz.func65,Tryz.ntmps65
  go_wp2_with fail
  refine(toks.spec_builtin s _).mono ?_
  rintro e w1 ⟨rfl,b1⟩
  go_wp2
  go_ret
  exact⟨by rw[HE.out];rfl,(below_box w _).trans (b1.mono (by simp))⟩
 have HD:=hid (show tokOk k s=(!s.toList.isEmpty&&(s.toList==(spell.spell k).toList)) by simp[tokOk,h2,h3,h4,h5,h6,h7,h8])
 obtain⟨d2,-⟩:=ne_facts h2
 obtain⟨d3,-⟩:=ne_facts h3
 obtain⟨d4,-⟩:=ne_facts h4
 obtain⟨d5,-⟩:=ne_facts h5
 obtain⟨d6,-⟩:=ne_facts h6
 obtain⟨d7,-⟩:=ne_facts h7
 obtain⟨d8,-⟩:=ne_facts h8
 clear h2 h3 h4 h5 h6 h7 h8
 cases he:s.toList.isEmpty
 ·have HE:=hid (show tokOk k s=((spell.spell k).toList==s.toList) by rw[HD.out,he];simp only[Bool.not_false,Bool.true_and];rw[Bool.eq_iff_iff,beq_iff_eq,beq_iff_eq];exact eq_comm)
  have he':¬s.toList=[]:=by intro h;rw[h]at he;cases he
  go_enter Tryz.func65,Tryz.ntmps65
  go_wp2
  go_region_held3 (fun w'=>w'.cell? ⟨w.heap.size,0,none⟩=some (.int .i64 k)∧w'.cell? ⟨w.heap.size,1,none⟩=some (.string s)∧Below w.heap.size w w'∧w.heap.size<w'.heap.size)
   (first|exact box_start _ _ _ _ _|exact box_drew (box_start _ _ _ _ _)|exact box_keep (by assumption) (by assumption)|exact box_drew (by assumption)|go_keep)
   (first|(go_at_call 116;refine(spell.spec_spell k _).mono ?_;rintro e w1 ⟨rfl,b1⟩))
  go_wp2
  go_ret
  exact⟨by rw[HE.out];rfl,by first|assumption|exact(by assumption:_∧_∧Below w.heap.size w _∧_).2.2.1|fail "SEE"⟩
 ·have HE:=hid (show tokOk k s=false by rw[HD.out,he];rfl)
  have he':s.toList=[]:=by simpa using he
  go_enter Tryz.func65,Tryz.ntmps65
  go_wp2
  go_quiet (fail)
  go_wp2
  go_ret
  exact⟨by rw[HE.out];rfl,below_drewN (below_box _ _) _⟩
end Go.Proofs.YtnoagleifffkcaaGreatDoor.tok

namespace Go.Proofs.YtnoagleifffkcaaGreatDoor.scan
open Go.RowKit
set_option linter.unusedVariables false
theorem cut_size{s:ByteArray}{K E:Nat}(h:E≤s.size):(s.extract K E).size=E-K:=by
 rw[ByteArray.size_extract,Nat.min_eq_left h]
theorem name_props{s:ByteArray}{k:Int}(h:0≤nameEnd s k):∃K E:Nat,k=K∧nameEnd s k=E∧K<E∧E≤s.size∧chars.isLetter (byteZ s K)=true:=by
 unfold nameEnd at h⊢
 by_cases hl:chars.isLetter (byteZ s k)=true
 ·rw[if_pos hl]at h⊢
  have hr:=cls_letter.range hl
  obtain⟨K,rfl⟩:∃K:Nat,k=K:=⟨k.toNat,by omega⟩
  have h1:=run_lt cls_word (word_of_letter hl)
  have h2:=run_le chars.isWord s K (by omega)
  exact⟨K,(runEnd chars.isWord s K).toNat,rfl,by omega,by omega,by omega,hl⟩
 ·rw[if_neg hl]at h;omega
end Go.Proofs.YtnoagleifffkcaaGreatDoor.scan

namespace Go.Proofs.YtnoagleifffkcaaGreatDoor.lex
open Go.RowKit
open tk scan
set_option linter.unusedVariables false
def gapZ(s:ByteArray)(i:Nat):Nat:=
 if h:i<s.size then
  if chars.isBlank (byteZ s i)=true then gapZ s (i+1)
  else if byteZ s i=92∧byteZ s ((i:Int)+1)=10 then gapZ s (i+2)
  else i
 else i
termination_by s.size-i
decreasing_by all_goals omega
theorem gap_out{s:ByteArray}{i:Nat}(h:¬i<s.size):gapZ s i=i:=by rw[gapZ,dif_neg h]
theorem gap_blank{s:ByteArray}{i:Nat}(h:i<s.size)(hb:chars.isBlank (byteZ s i)=true):gapZ s i=gapZ s (i+1):=by
 rw[gapZ,dif_pos h,if_pos hb]
theorem gap_join{s:ByteArray}{i:Nat}(h:i<s.size)(hb:chars.isBlank (byteZ s i)=false)(hj:byteZ s i=92∧byteZ s ((i:Int)+1)=10):gapZ s i=gapZ s (i+2):=by
 rw[gapZ,dif_pos h,if_neg (by rw[hb];decide),if_pos hj]
theorem gap_stop{s:ByteArray}{i:Nat}(h:i<s.size)(hb:chars.isBlank (byteZ s i)=false)(hj:¬(byteZ s i=92∧byteZ s ((i:Int)+1)=10)):gapZ s i=i:=by
 rw[gapZ,dif_pos h,if_neg (by rw[hb];decide),if_neg hj]
theorem join_lt{s:ByteArray}{i:Nat}(hj:byteZ s ((i:Int)+1)=10):i+1<s.size:=by
 have:=byte_range (s:=s) (i:=(i:Int)+1) (by omega)
 omega
theorem gap_bd(s:ByteArray)(i:Nat):i≤gapZ s i∧(i≤s.size→gapZ s i≤s.size):=by
 generalize hn:s.size-i=n
 induction n using Nat.strongRecOn generalizing i with
 |ind n ih=>
  by_cases h:i<s.size
  ·cases hb:chars.isBlank (byteZ s i)
   ·by_cases hj:byteZ s i=92∧byteZ s ((i:Int)+1)=10
    ·rw[gap_join h hb hj]
     have hlt:=join_lt hj.2
     have:=ih _ (by omega) (i+2) rfl
     omega
    ·rw[gap_stop h hb hj];omega
   ·rw[gap_blank h hb]
    have:=ih _ (by omega) (i+1) rfl
    omega
  ·rw[gap_out h];omega
def line(n:Int):Bool:=n !=10&&n != -1
def cmtEnd(s:ByteArray)(i:Int):Int:=runEnd line s i
def wordAt(s:ByteArray)(i:Nat):Int×Int:=
 if chars.nameShape (s.extract i (nameEnd s i).toNat)=true then
  if spell.keyword (s.extract i (nameEnd s i).toNat)=0 then
   if toks.isBuiltin (s.extract i (nameEnd s i).toNat)=true then(8,nameEnd s i)
   else if byteZ s (nameEnd s i)=40 then(7,nameEnd s i)else(6,nameEnd s i)
  else(spell.keyword (s.extract i (nameEnd s i).toNat),nameEnd s i)
 else(0,-1)
def kindAt(s:ByteArray)(i:Nat)(prev:Int):Int×Int:=
 if byteZ s i=10 then(1,(i:Int)+1)
 else if byteZ s i=35 then(2,cmtEnd s i)
 else if chars.isDigit (byteZ s i)=true∨byteZ s i=46 then(3,numEnd s i)
 else if byteZ s i=34 then(4,strEnd s i)
 else if byteZ s i=47∧operand.ends prev=false then(5,ereEnd s i)
 else if chars.isLetter (byteZ s i)=true then wordAt s i
 else((ops.opAt s i).1,(i:Int)+(ops.opAt s i).2)
theorem name_end_bd{s:ByteArray}{i:Nat}(h:chars.isLetter (byteZ s i)=true):(i:Int)<nameEnd s i∧nameEnd s i≤s.size:=by
 have h0:0≤nameEnd s i:=by
  unfold nameEnd
  rw[if_pos h]
  have:=run_ge chars.isWord s i
  omega
 obtain⟨K,E,hK,hE,h1,h2,_⟩:=name_props h0
 omega
def lexZ(s:ByteArray)(i:Nat)(prev:Int):Nat⊕List Tk:=
 if h:gapZ s i<s.size then
  if h2:(gapZ s i:Int)<(kindAt s (gapZ s i) prev).2 then
   match lexZ s (kindAt s (gapZ s i) prev).2.toNat (kindAt s (gapZ s i) prev).1 with
   | .inl f=> .inl f
   | .inr l=> .inr (⟨(kindAt s (gapZ s i) prev).1,s.extract (gapZ s i) (kindAt s (gapZ s i) prev).2.toNat,gapZ s i⟩::l)
  else .inl (gapZ s i)
 else .inr []
termination_by s.size-i
decreasing_by
 have:=(gap_bd s i).1
 omega
def push(d:List Tk):Nat⊕List Tk→Nat⊕List Tk
 | .inl f=> .inl f
 | .inr l=> .inr (d++l)
def lexF(s:ByteArray):List Tk×(Int×Int):=
 if 3000<s.size then([],(1,0))else match lexZ s 0 0 with
 | .inl f=>([],(2,(f:Int)))
 | .inr l=>(l,(0,0))
end Go.Proofs.YtnoagleifffkcaaGreatDoor.lex

namespace Go.Proofs.YtnoagleifffkcaaGreatDoor.lex
open Go.ChangeShapes Go.WideShapes Go.ChangeAt Go.RowKit
open tk scan
open spell (Held)
set_option linter.unusedVariables false
def RelGap(s:ByteArray)(A:Nat)(v:Value):Prop:=∃J:Nat,v= .int .i64 (J:Int)∧J≤s.size∧gapZ s J=gapZ s A
end Go.Proofs.YtnoagleifffkcaaGreatDoor.lex

namespace Go.Proofs.YtnoagleifffkcaaGreatDoor.lex
open Go.ChangeShapes Go.WideShapes Go.ChangeAt Go.RowKit
open tk scan
open spell (Held)
set_option linter.unusedVariables false
theorem eqI{x c:Int}(h:x=c):(x==c)=true∧(x !=c)=false:=by subst h;simp
theorem neI{x c:Int}(h:¬x=c):(x==c)=false∧(x !=c)=true:=by simp[h]
end Go.Proofs.YtnoagleifffkcaaGreatDoor.lex

namespace Go.Proofs.YtnoagleifffkcaaGreatDoor.lex
open Go.ChangeShapes Go.WideShapes Go.ChangeAt Go.RowKit
open tk scan
set_option linter.unusedVariables false
def wordK(s x:ByteArray)(E:Nat):Int:=if spell.keyword x=0 then(if toks.isBuiltin x=true then 8 else if byteZ s (E:Int)=40 then 7 else 6)else spell.keyword x
def B3(g:Nat)(k a:Int)(x:ByteArray)(w:World):Prop:=w.heap[g]? =some (.cells #[.int .i64 k,.string x,.int .i64 a] 75 (0,0))
theorem B3.lt{g:Nat}{k a:Int}{x:ByteArray}{w:World}(h:B3 g k a x w):g<w.heap.size:=by
 rcases Nat.lt_or_ge g w.heap.size with h'|h'
 ·exact h'
 ·unfold B3 at h;rw[Array.getElem?_eq_none h']at h;cases h
theorem B3.keep{B g:Nat}{k a:Int}{x:ByteArray}{w w':World}(h:B3 g k a x w)(hb:Below B w w')(hg:g<B):B3 g k a x w':=(hb.block g hg).trans h
theorem B3.c{g:Nat}{k a:Int}{x:ByteArray}{w:World}(h:B3 g k a x w):w.cell? ⟨g,0,none⟩=some (.int .i64 k)∧w.cell? ⟨g,1,none⟩=some (.string x)∧w.cell? ⟨g,2,none⟩=some (.int .i64 a):=
 ⟨by rw[cell_of_row w g 0 _ _ _ h];rfl,by rw[cell_of_row w g 1 _ _ _ h];rfl,by rw[cell_of_row w g 2 _ _ _ h];rfl⟩
theorem B3.f{g:Nat}{k a:Int}{x:ByteArray}{w:World}(h:B3 g k a x w)(j:Nat):w.frozen? ⟨g,j,none⟩=false:=frozen_of_row w g j _ _ h
theorem B3.new(w:World)(k a:Int)(x:ByteArray):B3 w.heap.size k a x (w.alloc (.cells #[.int .i64 k,.string x,.int .i64 a] 75)):=heap_alloc_new w _
theorem B3.put{g:Nat}{k a:Int}{x:ByteArray}{w:World}(h:B3 g k a x w)(k' a':Int)(x':ByteArray):
  B3 g k' a' x' (((w.setCell ⟨g,0,none⟩ (.int .i64 k')).setCell ⟨g,1,none⟩ (.string x')).setCell ⟨g,2,none⟩ (.int .i64 a')):=
 heap_setCell_same _ g 2 _ _ _ (heap_setCell_same _ g 1 _ _ _ (heap_setCell_same _ g 0 _ _ _ h))
theorem B3.other{g h:Nat}{k a:Int}{x:ByteArray}{w:World}(H:B3 g k a x w)(hne:g≠h)(j:Nat)(v:Value):B3 g k a x (w.setCell ⟨h,j,none⟩ v):=(Below.heap_setCell w ⟨h,j,none⟩ v g hne).trans H
theorem below_set3{B g:Nat}{w W:World}(h:Below B W w)(hg:B≤g)(x y z:Value):Below B W (((w.setCell ⟨g,0,none⟩ x).setCell ⟨g,1,none⟩ y).setCell ⟨g,2,none⟩ z):=
 ((h.setCell (p:=⟨g,0,none⟩) hg x).setCell (p:=⟨g,1,none⟩) hg y).setCell (p:=⟨g,2,none⟩) hg z
end Go.Proofs.YtnoagleifffkcaaGreatDoor.lex

namespace Go.Proofs.YtnoagleifffkcaaGreatDoor.tksok
open Lib (hid)
open Go.ChangeShapes Go.WideShapes Go.ChangeAt Go.RowKit
open tk
open lex (eqI neI)
open spell (Held)
set_option linter.unusedVariables false
def follow(p k:Int):Bool:=
 if p=7∧¬k=32 then false
 else if p=2∧¬k=1 then false
 else if k=5 then !operand.ends p
 else if k=58∨k=41 then operand.ends p
 else true
def okFrom(p:Int):List Tk→Bool
 |[]=>p !=7
 |t::l=>tok.tokOk t.k t.s&&(follow p t.k&&okFrom t.k l)
def tokensOk(l:List Tk):Bool:=decide (l.length≤3000)&&okFrom 0 l
theorem impl_follow(p k:Int)(w:World):Calls Tryz.prog 61 #[.int .i64 p,.int .i64 k] w fun e w'=>e= .returned (.bool (follow p k))∧w=w':=by
 by_cases h1:p=7
 ·obtain⟨a1,a2⟩:=eqI h1
  by_cases h2:k=32
  ·subst h1 h2
   go_enter Tryz.func61,Tryz.ntmps61
   go_wp2
   go_ret
   exact⟨rfl,rfl⟩
  ·have HE:=hid (show follow p k=false by unfold follow;rw[if_pos ⟨h1,h2⟩])
   obtain⟨b1,b2⟩:=neI h2
   clear h1 h2
   go_enter Tryz.func61,Tryz.ntmps61
   go_wp2
   go_ret
   exact⟨by rw[HE.out];rfl,rfl⟩
 obtain⟨a1,a2⟩:=neI h1
 by_cases h3:p=2
 ·obtain⟨a3,a4⟩:=eqI h3
  by_cases h4:k=1
  ·subst h3 h4
   go_enter Tryz.func61,Tryz.ntmps61
   go_wp2
   go_ret
   exact⟨rfl,rfl⟩
  ·have HE:=hid (show follow p k=false by unfold follow;rw[if_neg (fun h=>h1 h.1),if_pos ⟨h3,h4⟩])
   obtain⟨b1,b2⟩:=neI h4
   clear h1 h3 h4
   go_enter Tryz.func61,Tryz.ntmps61
   go_wp2
   go_ret
   exact⟨by rw[HE.out];rfl,rfl⟩
 obtain⟨a3,a4⟩:=neI h3
 by_cases h5:k=5
 ·have HE:=hid (show follow p k= !operand.ends p by unfold follow;rw[if_neg (fun h=>h1 h.1),if_neg (fun h=>h3 h.1),if_pos h5])
  obtain⟨a5,a6⟩:=eqI h5
  clear h1 h3 h5
  go_enter Tryz.func61,Tryz.ntmps61
  go_wp2_with (go_at_call 107;refine(operand.impl_ends _ _).mono ?_;rintro e w' ⟨rfl,rfl⟩)
  go_ret
  exact⟨by rw[HE.out];rfl,rfl⟩
 obtain⟨a5,a6⟩:=neI h5
 by_cases h6:k=58
 ·have HE:=hid (show follow p k=operand.ends p by unfold follow;rw[if_neg (fun h=>h1 h.1),if_neg (fun h=>h3 h.1),if_neg h5,if_pos (.inl h6)])
  obtain⟨a7,a8⟩:=eqI h6
  clear h1 h3 h5 h6
  go_enter Tryz.func61,Tryz.ntmps61
  go_wp2_with (go_at_call 107;refine(operand.impl_ends _ _).mono ?_;rintro e w' ⟨rfl,rfl⟩)
  go_ret
  exact⟨by rw[HE.out];rfl,rfl⟩
 obtain⟨a7,a8⟩:=neI h6
 by_cases h7:k=41
 ·have HE:=hid (show follow p k=operand.ends p by unfold follow;rw[if_neg (fun h=>h1 h.1),if_neg (fun h=>h3 h.1),if_neg h5,if_pos (.inr h7)])
  obtain⟨b7,b8⟩:=eqI h7
  clear h1 h3 h5 h6 h7
  go_enter Tryz.func61,Tryz.ntmps61
  go_wp2_with (go_at_call 107;refine(operand.impl_ends _ _).mono ?_;rintro e w' ⟨rfl,rfl⟩)
  go_ret
  exact⟨by rw[HE.out];rfl,rfl⟩
 have HE:=hid (show follow p k=true by unfold follow;rw[if_neg (fun h=>h1 h.1),if_neg (fun h=>h3 h.1),if_neg h5,if_neg (fun h=>h.elim h6 h7)])
 obtain⟨b7,b8⟩:=neI h7
 clear h1 h3 h5 h6 h7
 go_enter Tryz.func61,Tryz.ntmps61
 go_wp2
 go_ret
 exact⟨by rw[HE.out];rfl,rfl⟩
theorem ok_cons{l:List Tk}{I:Nat}(h:I<l.length)(p:Int):okFrom p (l.drop I)=(tok.tokOk l[I].k l[I].s&&(follow p l[I].k&&okFrom l[I].k (l.drop (I+1)))):=by
 rw[List.drop_eq_getElem_cons h]
 rfl
def RelOk(B:Nat)(W:World)(l:List Tk)(p i:Value)(wr:World):Prop:=
 ∃(I:Nat) (P:Int),I≤l.length∧i= .int .i64 (I:Int)∧p= .int .i64 P∧Below B W wr∧okFrom P (l.drop I)=okFrom 0 l
set_option maxHeartbeats 3200000 in
theorem impl_toksOk(l:List Tk)(a:Option Addr)(cap:Nat)(w:World)(hn:l.length≤1048576)(hc:Lies w.heap.size w a l)(hm:∀t∈l,t.s.size≤1048576)(hh:Held w):
  Calls Tryz.prog 31 #[.slice a l.length cap] w fun e w'=>e= .returned (.bool (tokensOk l))∧Below w.heap.size w w':=by
 have HC:=hid hc
 have HM:=hid hm
 have HH:=hid hh
 clear hc hm hh
 obtain⟨n,hln⟩:∃n,n=l.length:=⟨_,rfl⟩
 have HLN:=hid hln
 rw[←hln]
 rw[←hln]at hn
 by_cases hbig:3000<n
 ·have HE:=hid (show tokensOk l=false by unfold tokensOk;rw[decide_eq_false (by omega)];rfl)
  have J:(3000:Int)<(n:Int):=by omega
  clear hln hbig
  go_enter Tryz.func31,Tryz.ntmps31
  go_wp2
  go_ret
  exact⟨by rw[HE.out];rfl,Below.refl _ _⟩
 have HT:=hid (show tokensOk l=okFrom 0 l by unfold tokensOk;rw[decide_eq_true (by omega)];rfl)
 have J:¬(3000:Int)<(n:Int):=by omega
 clear hln hbig
 go_enter Tryz.func31,Tryz.ntmps31
 go_wp2
 go_loopw [3,11] (fun p i wr=>RelOk w.heap.size w l p i wr) (fun _ i _=>n-(intOf i).toNat)
 case atStart=>exact⟨0,0,by omega,rfl,rfl,Below.refl _ _,rfl⟩
 case round=>
  obtain⟨I,P,hI,rfl,rfl,hbel,hok⟩:=hrel
  have HB:=hid hbel
  have HO:=hid hok
  rw[←HLN.out]at hI
  clear hbel hok
  by_cases hlt:I<n
  ·have G:I<l.length:=by have:=HLN.out;omega
   have HCO:=hid (ok_cons G P)
   obtain⟨b,o,rfl,hb,hcell⟩:=lies_at HC.out G
   obtain⟨c0,c1,c2⟩:=(hcell I G).keep HB.out hb
   have hts:=HM.out l[I] (List.getElem_mem G)
   obtain⟨t,ht⟩:∃t,t=l[I]:=⟨_,rfl⟩
   rw[←ht]at HCO c0 c1 c2 hts
   have K:(I:Int)<(n:Int):=by omega
   have O:(0:Int)≤(I:Int):=by omega
   have HHr:=hid (HH.below HB.out)
   clear ht hcell
   have j:=hid (HB.alloc HB.size (.cells #[.int .i64 t.k,.string t.s,.int .i64 t.a] 75))
   have F:=hid (lex.B3.new wr t.k t.a t.s)
   cases hok1:tok.tokOk t.k t.s
   ·have HE:=hid (show tokensOk l=false by rw[HT.out,←HO.out,HCO.out,hok1];rfl)
    go_wp2_with fail
    refine(tok.impl_tok t.k t.a t.s _ hts (HHr.below ((Below.refl _ _).alloc (Nat.le_refl _) _))).mono ?_
    rintro e w2 ⟨he,b2⟩
    rw[hok1]at he
    subst he
    have y:=hid (j.trans (b2.mono j.size))
    clear b2
    go_wp2
    go_ret
    exact⟨by rw[HE.out];rfl,y.out⟩
   ·cases hf:follow P t.k
    ·have HE:=hid (show tokensOk l=false by rw[HT.out,←HO.out,HCO.out,hok1,hf];rfl)
     go_wp2_with fail
     refine(tok.impl_tok t.k t.a t.s _ hts (HHr.below ((Below.refl _ _).alloc (Nat.le_refl _) _))).mono ?_
     rintro e w2 ⟨he,b2⟩
     rw[hok1]at he
     subst he
     have y:=hid (j.trans (b2.mono j.size))
     obtain⟨x0,x1,x2⟩:=(F.keep b2 F.lt).c
     clear b2
     go_wp2_with (go_at_call 61;refine(impl_follow _ _ _).mono ?_;rintro e w' ⟨he,rfl⟩;rw[hf]at he;subst he)
     go_ret
     exact⟨by rw[HE.out];rfl,y.out⟩
    ·have HE:=hid (show okFrom t.k (l.drop (I+1))=okFrom 0 l by rw[←HO.out,HCO.out,hok1,hf];rfl)
     go_wp2_with fail
     refine(tok.impl_tok t.k t.a t.s _ hts (HHr.below ((Below.refl _ _).alloc (Nat.le_refl _) _))).mono ?_
     rintro e w2 ⟨he,b2⟩
     rw[hok1]at he
     subst he
     have y:=hid (j.trans (b2.mono j.size))
     obtain⟨x0,x1,x2⟩:=(F.keep b2 F.lt).c
     clear b2
     go_wp2_with (go_at_call 61;refine(impl_follow _ _ _).mono ?_;rintro e w' ⟨he,rfl⟩;rw[hf]at he;subst he)
     go_roundw
     case rel=>exact⟨I+1,t.k,by have:=HLN.out;omega,by go_num,rfl,y.out,HE.out⟩
     case measure=>simp[intOf];omega
  ·have HE:=hid (show tokensOk l=(P !=7) by
    rw[HT.out,←HO.out,List.drop_eq_nil_of_le (by have:=HLN.out;omega)];rfl)
   go_wp2
   go_ret
   exact⟨by rw[HE.out];rfl,HB.out⟩
end Go.Proofs.YtnoagleifffkcaaGreatDoor.tksok
