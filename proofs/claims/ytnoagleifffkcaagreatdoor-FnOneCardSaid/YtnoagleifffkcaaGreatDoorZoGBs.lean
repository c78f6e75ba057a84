/-

-/
import Derived.WalkKit
import Derived.Laws.BitsLemmas
import Derived.Lib.Hide
import Derived.Test.YtnoagleifffkcaaGreatDoorRows
import Derived.ProofKit
import Derived.OpenShut
import Derived.ShutString
import Derived.ChangeOld
import Derived.Below
import Derived.WalkSpells
import Derived.WalkLawsBesides
namespace Go.Proofs.YtnoagleifffkcaaGreatDoor
open Go.RowKit
theorem wraps_i64(n:Int)(h₀:0≤n)(h₁:n<2^63):IntKind.i64.wrap n=n:=by rw[IntKind.wrap_i64];omega
theorem take_snoc(s:ByteArray)(k:Nat)(h:k<s.size):s.data.toList.take (k+1)=s.data.toList.take k++[s[k]]:=by
 rw[List.take_succ_eq_append_getElem (by simpa using h)];rfl
end Go.Proofs.YtnoagleifffkcaaGreatDoor

namespace Go.Proofs.YtnoagleifffkcaaGreatDoor.chars
open Lib (hid)
open Go.ChangeShapes Go.WideShapes Go.ChangeAt Go.RowKit
set_option linter.unusedVariables false
def inR(n a b:Int):Bool:=decide (a≤n)&&decide (n≤b)
def isLetter(n:Int):Bool:=inR n 97 122||inR n 65 90||n==95
def isDigit(n:Int):Bool:=inR n 48 57
def isBlank(n:Int):Bool:=n==32||n==9
def isWord(n:Int):Bool:=isLetter n||isDigit n
def wordsTo(s:ByteArray)(k:Nat):Bool:=(s.data.toList.take k).all fun b=>isWord (b.toNat:Int)
def nameShape(s:ByteArray):Bool:=inR (s.size:Int) 1 12&&(isLetter ((s.data.toList.getD 0 0).toNat:Int)&&wordsTo s s.size)
theorem byte_at(s:ByteArray)(i:Nat)(h:i<s.size):s.data.toList.getD i 0=s[i]:=by
 have:i<s.data.size:=h
 rw[List.getD_eq_getElem?_getD]
 simp only[Array.getElem?_toList,Array.getElem?_eq_getElem this]
 rfl
theorem ne_empty{s:ByteArray}(h:0<s.size):s.toList.isEmpty=false:=by
 rw[ByteArray.toList_eq]
 have hl:0<s.data.toList.length:=h
 cases e:s.data.toList with
 |nil=>rw[e]at hl;simp at hl
 |cons _ _=>rfl
theorem words_step{s:ByteArray}{k:Nat}(h:k<s.size)(hw:wordsTo s k=true)(hb:isWord (s[k].toNat:Int)=true):wordsTo s (k+1)=true:=by
 unfold wordsTo at*
 rw[take_snoc s k h,List.all_append,hw]
 simp[hb]
theorem words_dead{s:ByteArray}{k:Nat}(h:k<s.size)(hb:isWord (s[k].toNat:Int)=false):wordsTo s s.size=false:=by
 unfold wordsTo
 rw[List.all_eq_false]
 refine⟨s[k], ?_,by simp[hb]⟩
 rw[List.take_of_length_le (show s.data.toList.length≤s.size from Nat.le_refl _)]
 exact Array.mem_toList_iff.2 (Array.getElem_mem (xs:=s.data) h)
theorem shape_dead{s:ByteArray}{k:Nat}(h:k<s.size)(hb:isWord (s[k].toNat:Int)=false):nameShape s=false:=by
 simp[nameShape,words_dead h hb]
theorem shape_long{s:ByteArray}(h:12<s.size):nameShape s=false:=by
 simp[nameShape,inR];omega
theorem shape_empty{s:ByteArray}(h:s.size=0):nameShape s=false:=by
 simp[nameShape,inR,h]
theorem shape_end{s:ByteArray}(h0:0<s.size)(h:s.size≤12)(hw:wordsTo s s.size=true):nameShape s=isLetter (s[0].toNat:Int):=by
 have hr:inR (s.size:Int) 1 12=true:=by simp[inR];omega
 unfold nameShape
 rw[byte_at s 0 h0,hw,hr]
 simp
theorem shape_head{s:ByteArray}(h0:0<s.size)(hb:isLetter (s[0].toNat:Int)=false):nameShape s=false:=by
 unfold nameShape
 rw[byte_at s 0 h0,hb]
 simp
theorem spec_in(n a b:Int)(w:World):Calls Tryz.prog 30 #[.int .i64 n,.int .i64 a,.int .i64 b] w fun e w'=>e= .returned (.bool (inR n a b))∧w=w':=by
 by_cases h1:a≤n
 ·by_cases h2:n≤b
  ·have HE:=hid (show inR n a b=true by simp[inR,h1,h2])
   go_enter Tryz.func30,Tryz.ntmps30
   go_wp2
   go_ret
   exact⟨by rw[HE.out];rfl,rfl⟩
  ·have HE:=hid (show inR n a b=false by simp[inR,h1,h2])
   go_enter Tryz.func30,Tryz.ntmps30
   go_wp2
   go_ret
   exact⟨by rw[HE.out];rfl,rfl⟩
 ·have HE:=hid (show inR n a b=false by simp[inR,h1])
  go_enter Tryz.func30,Tryz.ntmps30
  go_wp2
  go_ret
  exact⟨by rw[HE.out];rfl,rfl⟩
theorem spec_digit(n:Int)(w:World):Calls Tryz.prog 215 #[.int .i64 n] w fun e w'=>e= .returned (.bool (isDigit n))∧w=w':=by
 go_enter Tryz.func215,Tryz.ntmps215
 go_wp2_with fail
 refine(spec_in n 48 57 w).mono ?_
 rintro e w' ⟨rfl,rfl⟩
 go_wp2
 go_ret
 exact⟨rfl,rfl⟩
theorem impl_digit(n:Int)(w:World):Calls Tryz.prog 209 #[.int .i64 n] w fun e w'=>e= .returned (.bool (isDigit n))∧w=w':=by
 by_cases h1:48≤n
 ·have HE:=hid (show isDigit n=decide (n≤57) by simp[isDigit,inR,h1])
  go_enter Tryz.func209,Tryz.ntmps209
  go_wp2
  go_ret
  exact⟨by rw[HE.out];rfl,rfl⟩
 ·have HE:=hid (show isDigit n=false by simp[isDigit,inR,h1])
  go_enter Tryz.func209,Tryz.ntmps209
  go_wp2
  go_ret
  exact⟨by rw[HE.out];rfl,rfl⟩
theorem spec_letter(n:Int)(w:World):Calls Tryz.prog 217 #[.int .i64 n] w fun e w'=>e= .returned (.bool (isLetter n))∧w=w':=by
 by_cases h1:inR n 97 122=true
 ·have HE:=hid (show isLetter n=true by simp[isLetter,h1])
  go_enter Tryz.func217,Tryz.ntmps217
  go_wp2_with (go_at_call 30;refine(spec_in _ _ _ _).mono ?_;rintro e w' ⟨rfl,rfl⟩)
  go_ret
  exact⟨by rw[HE.out];rfl,rfl⟩
 ·by_cases h2:inR n 65 90=true
  ·have HE:=hid (show isLetter n=true by simp[isLetter,h2])
   go_enter Tryz.func217,Tryz.ntmps217
   go_wp2_with (go_at_call 30;refine(spec_in _ _ _ _).mono ?_;rintro e w' ⟨rfl,rfl⟩)
   go_ret
   exact⟨by rw[HE.out];rfl,rfl⟩
  ·have HE:=hid (show isLetter n=(n==95) by simp[isLetter,h1,h2])
   go_enter Tryz.func217,Tryz.ntmps217
   go_wp2_with (go_at_call 30;refine(spec_in _ _ _ _).mono ?_;rintro e w' ⟨rfl,rfl⟩)
   go_ret
   exact⟨by rw[HE.out];rfl,rfl⟩
theorem impl_letter(n:Int)(w:World):Calls Tryz.prog 210 #[.int .i64 n] w fun e w'=>e= .returned (.bool (isLetter n))∧w=w':=by
 obtain⟨v,hv⟩:∃v,v=isLetter n:=⟨_,rfl⟩
 rw[←hv]
 unfold isLetter inR at hv
 have HV:=hid hv
 clear hv
 by_cases h1:97≤n
 ·by_cases h2:n≤122
  ·go_enter Tryz.func210,Tryz.ntmps210
   go_wp2
   go_ret
   exact⟨by rw[HV.out];simp;omega,rfl⟩
  ·have h3:65≤n:=by omega
   have h4:¬n≤90:=by omega
   go_enter Tryz.func210,Tryz.ntmps210
   go_wp2
   go_ret
   exact⟨by rw[HV.out];simp;omega,rfl⟩
 ·by_cases h3:65≤n
  ·by_cases h4:n≤90
   ·go_enter Tryz.func210,Tryz.ntmps210
    go_wp2
    go_ret
    exact⟨by rw[HV.out];simp;omega,rfl⟩
   ·go_enter Tryz.func210,Tryz.ntmps210
    go_wp2
    go_ret
    exact⟨by rw[HV.out];simp;omega,rfl⟩
  ·go_enter Tryz.func210,Tryz.ntmps210
   go_wp2
   go_ret
   exact⟨by rw[HV.out];simp;omega,rfl⟩
theorem spec_word(n:Int)(w:World):Calls Tryz.prog 216 #[.int .i64 n] w fun e w'=>e= .returned (.bool (isWord n))∧w=w':=by
 by_cases h1:isLetter n=true
 ·have HE:=hid (show isWord n=true by simp[isWord,h1])
  go_enter Tryz.func216,Tryz.ntmps216
  go_wp2_with (go_at_call 217;refine(spec_letter _ _).mono ?_;rintro e w' ⟨rfl,rfl⟩)
  go_ret
  exact⟨by rw[HE.out];rfl,rfl⟩
 ·have HE:=hid (show isWord n=isDigit n by simp[isWord,h1])
  go_enter Tryz.func216,Tryz.ntmps216
  go_wp2_with (first|(go_at_call 217;refine(spec_letter _ _).mono ?_;rintro e w' ⟨rfl,rfl⟩)|(go_at_call 215;refine(spec_digit _ _).mono ?_;rintro e w' ⟨rfl,rfl⟩))
  go_ret
  exact⟨by rw[HE.out];rfl,rfl⟩
theorem impl_word(n:Int)(w:World):Calls Tryz.prog 211 #[.int .i64 n] w fun e w'=>e= .returned (.bool (isWord n))∧w=w':=by
 by_cases h1:isLetter n=true
 ·have HE:=hid (show isWord n=true by simp[isWord,h1])
  go_enter Tryz.func211,Tryz.ntmps211
  go_wp2_with (go_at_call 210;refine(impl_letter _ _).mono ?_;rintro e w' ⟨rfl,rfl⟩)
  go_ret
  exact⟨by rw[HE.out];rfl,rfl⟩
 ·have HE:=hid (show isWord n=isDigit n by simp[isWord,h1])
  go_enter Tryz.func211,Tryz.ntmps211
  go_wp2_with (first|(go_at_call 210;refine(impl_letter _ _).mono ?_;rintro e w' ⟨rfl,rfl⟩)|(go_at_call 209;refine(impl_digit _ _).mono ?_;rintro e w' ⟨rfl,rfl⟩))
  go_ret
  exact⟨by rw[HE.out];rfl,rfl⟩
def Rel(s:ByteArray)(i:Value):Prop:=∃I:Nat,I≤s.size∧i= .int .i64 I∧wordsTo s I=true
theorem spec_shape(s:ByteArray)(w:World)(hs:s.size≤1048576):Calls Tryz.prog 178 #[.string s] w fun e w'=>e= .returned (.bool (nameShape s))∧w=w':=by
 go_enter Tryz.func178,Tryz.ntmps178
 go_wp2
 go_loop [3] (fun i=>Rel s i) (fun i=>s.size-(intOf i).toNat)
 case atStart=>exact⟨0,by omega,rfl,by simp[wordsTo]⟩
 case round=>
  obtain⟨I,hI,rfl,hw⟩:=hrel
  have HW:=hid hw
  clear hw
  by_cases hlt:I<s.size
  ·have hc:=s[I].toNat_lt
   by_cases hb:isWord (s[I].toNat:Int)=true
   ·have HS:=hid (words_step hlt HW.out hb)
    go_wp2_with (go_at_call 216;refine(spec_word _ _).mono ?_;rintro e w' ⟨rfl,rfl⟩)
    go_round
    case rel=>exact⟨I+1,by omega,by go_num,HS.out⟩
    case measure=>simp[intOf];omega
   ·have hb':isWord (s[I].toNat:Int)=false:=by simpa using hb
    have HS:=hid (shape_dead hlt hb')
    clear hb
    go_wp2_with (go_at_call 216;refine(spec_word _ _).mono ?_;rintro e w' ⟨rfl,rfl⟩)
    go_ret
    exact⟨by rw[HS.out];rfl,rfl⟩
  ·obtain rfl:I=s.size:=by omega
   by_cases h0:s.size=0
   ·have hr:inR (s.size:Int) 1 12=false:=by simp[inR,h0]
    have HS:=hid (shape_empty h0)
    clear h0
    go_wp2_with (go_at_call 30;refine(spec_in _ _ _ _).mono ?_;rintro e w' ⟨rfl,rfl⟩)
    go_ret
    exact⟨by rw[HS.out];rfl,rfl⟩
   ·have j:0<s.size:=by omega
    by_cases h12:s.size≤12
    ·have hr:inR (s.size:Int) 1 12=true:=by simp[inR];omega
     have hc:=s[0].toNat_lt
     have HS:=hid (shape_end j h12 HW.out)
     clear h0 h12
     go_wp2_with (first|(go_at_call 30;refine(spec_in _ _ _ _).mono ?_;rintro e w' ⟨rfl,rfl⟩)|(go_at_call 217;refine(spec_letter _ _).mono ?_;rintro e w' ⟨rfl,rfl⟩))
     go_ret
     exact⟨by rw[HS.out];rfl,rfl⟩
    ·have hr:inR (s.size:Int) 1 12=false:=by simp[inR];omega
     have HS:=hid (shape_long (s:=s) (by omega))
     clear h0 h12
     go_wp2_with (go_at_call 30;refine(spec_in _ _ _ _).mono ?_;rintro e w' ⟨rfl,rfl⟩)
     go_ret
     exact⟨by rw[HS.out];rfl,rfl⟩
theorem impl_shape(s:ByteArray)(w:World)(hs:s.size≤1048576):Calls Tryz.prog 164 #[.string s] w fun e w'=>e= .returned (.bool (nameShape s))∧w=w':=by
 by_cases h0:s.size=0
 ·obtain rfl:s=⟨#[]⟩:=ByteArray.ext (Array.size_eq_zero_iff.1 h0)
  have HS:=hid (shape_empty h0)
  clear h0
  go_enter Tryz.func164,Tryz.ntmps164
  go_wp2
  go_ret
  exact⟨by rw[HS.out];rfl,rfl⟩
 ·have j:0<s.size:=by omega
  have hne:=ne_empty j
  by_cases h12:12<s.size
  ·have HS:=hid (shape_long h12)
   clear h0
   go_enter Tryz.func164,Tryz.ntmps164
   go_wp2
   go_ret
   exact⟨by rw[HS.out];rfl,rfl⟩
  ·have hc:=s[0].toNat_lt
   by_cases hl:isLetter (s[0].toNat:Int)=true
   ·clear h0
    go_enter Tryz.func164,Tryz.ntmps164
    go_wp2_with (go_at_call 210;refine(impl_letter _ _).mono ?_;rintro e w' ⟨rfl,rfl⟩)
    go_loop [3,20] (fun _ i=>Rel s i) (fun _ i=>s.size-(intOf i).toNat)
    case atStart=>exact⟨0,by omega,rfl,by simp[wordsTo]⟩
    case round=>
     obtain⟨I,hI,rfl,hw⟩:=hrel
     have HW:=hid hw
     clear hw
     by_cases hlt:I<s.size
     ·have hc:=s[I].toNat_lt
      by_cases hb:isWord (s[I].toNat:Int)=true
      ·have HS:=hid (words_step hlt HW.out hb)
       go_wp2_with (go_at_call 211;refine(impl_word _ _).mono ?_;rintro e w' ⟨rfl,rfl⟩)
       go_round
       case rel=>exact⟨I+1,by omega,by go_num,HS.out⟩
       case measure=>simp[intOf];omega
      ·have hb':isWord (s[I].toNat:Int)=false:=by simpa using hb
       have HS:=hid (shape_dead hlt hb')
       clear hb
       go_wp2_with (go_at_call 211;refine(impl_word _ _).mono ?_;rintro e w' ⟨rfl,rfl⟩)
       go_ret
       exact⟨by rw[HS.out];rfl,rfl⟩
     ·obtain rfl:I=s.size:=by omega
      have HS:=hid (shape_end j (by omega) HW.out)
      go_wp2
      go_ret
      exact⟨by rw[HS.out,hl];rfl,rfl⟩
   ·have hl':isLetter (s[0].toNat:Int)=false:=by simpa using hl
    have HS:=hid (shape_head j hl')
    clear hl h0
    go_enter Tryz.func164,Tryz.ntmps164
    go_wp2_with (go_at_call 210;refine(impl_letter _ _).mono ?_;rintro e w' ⟨rfl,rfl⟩)
    go_ret
    exact⟨by rw[HS.out];rfl,rfl⟩
end Go.Proofs.YtnoagleifffkcaaGreatDoor.chars
