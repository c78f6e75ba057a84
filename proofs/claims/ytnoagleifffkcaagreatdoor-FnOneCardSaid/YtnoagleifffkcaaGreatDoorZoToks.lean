/-

-/
import Derived.Test.YtnoagleifffkcaaGreatDoorRows
import Derived.Test.YtnoagleifffkcaaGreatDoorZoGBs
import Derived.WalkKit
import Derived.ProofKit
import Derived.OpenShut
import Derived.ShutString
import Derived.ChangeOld
import Derived.Below
import Derived.Laws.Rows
import Derived.WalkSpells
import Derived.WalkLawsBesides
namespace Go.Proofs.YtnoagleifffkcaaGreatDoor.toks
open Lib (hid)
open Go.ChangeShapes Go.WideShapes Go.ChangeAt Go.RowKit
set_option linter.unusedVariables false
def words:List ByteArray:=[⟨#[66,69,71,73,78]⟩,⟨#[69,78,68]⟩,⟨#[102,117,110,99,116,105,111,110]⟩,⟨#[105,102]⟩,⟨#[101,108,115,101]⟩,⟨#[119,104,105,108,101]⟩,⟨#[102,111,114]⟩,⟨#[100,111]⟩,⟨#[98,114,101,97,107]⟩,⟨#[99,111,110,116,105,110,117,101]⟩,⟨#[110,101,120,116]⟩,⟨#[101,120,105,116]⟩,⟨#[114,101,116,117,114,110]⟩,⟨#[100,101,108,101,116,101]⟩,⟨#[105,110]⟩,⟨#[112,114,105,110,116]⟩,⟨#[112,114,105,110,116,102]⟩]
def signs:List ByteArray:=[⟨#[123]⟩,⟨#[125]⟩,⟨#[40]⟩,⟨#[41]⟩,⟨#[91]⟩,⟨#[93]⟩,⟨#[44]⟩,⟨#[59]⟩,⟨#[43,61]⟩,⟨#[45,61]⟩,⟨#[42,61]⟩,⟨#[47,61]⟩,⟨#[37,61]⟩,⟨#[94,61]⟩,⟨#[124,124]⟩,⟨#[38,38]⟩,⟨#[33,126]⟩,⟨#[61,61]⟩,⟨#[60,61]⟩,⟨#[62,61]⟩,⟨#[33,61]⟩,⟨#[43,43]⟩,⟨#[45,45]⟩,⟨#[62,62]⟩,⟨#[61]⟩,⟨#[43]⟩,⟨#[45]⟩,⟨#[42]⟩,⟨#[47]⟩,⟨#[37]⟩,⟨#[94]⟩,⟨#[33]⟩,⟨#[62]⟩,⟨#[60]⟩,⟨#[124]⟩,⟨#[63]⟩,⟨#[58]⟩,⟨#[126]⟩,⟨#[36]⟩]
def builtins:List ByteArray:=[⟨#[97,116,97,110,50]⟩,⟨#[99,108,111,115,101]⟩,⟨#[99,111,115]⟩,⟨#[101,120,112]⟩,⟨#[103,115,117,98]⟩,⟨#[105,110,100,101,120]⟩,⟨#[105,110,116]⟩,⟨#[108,101,110,103,116,104]⟩,⟨#[108,111,103]⟩,⟨#[109,97,116,99,104]⟩,⟨#[114,97,110,100]⟩,⟨#[115,105,110]⟩,⟨#[115,112,108,105,116]⟩,⟨#[115,112,114,105,110,116,102]⟩,⟨#[115,113,114,116]⟩,⟨#[115,114,97,110,100]⟩,⟨#[115,117,98]⟩,⟨#[115,117,98,115,116,114]⟩,⟨#[115,121,115,116,101,109]⟩,⟨#[116,111,108,111,119,101,114]⟩,⟨#[116,111,117,112,112,101,114]⟩]
def strCells(l:List ByteArray):Array Value:=(l.map Value.string).toArray
def place(l:List ByteArray)(s:ByteArray):Nat:=l.findIdx fun x=>decide (x=s)
def find(l:List ByteArray)(s:ByteArray):Int:=if place l s<l.length then(place l s:Int)else-1
def Rel(l:List ByteArray)(s:ByteArray)(i:Value):Prop:=∃I:Nat,I≤l.length∧i= .int .i64 I∧I≤place l s
theorem place_here{l:List ByteArray}{s:ByteArray}{I:Nat}(hI:I<l.length)(hp:I≤place l s)(h:l.getD I ⟨#[]⟩=s):place l s=I:=by
 unfold place at*
 have h':l[I]=s:=by simpa [List.getD,hI]using h
 have:=List.not_of_lt_findIdx (p:=fun x=>decide (x=s)) (xs:=l) (i:=I)
 rcases Nat.lt_or_ge I (l.findIdx fun x=>decide (x=s))with hlt|hge
 ·exact absurd h' (by simpa using this hlt)
 ·omega
theorem place_next{l:List ByteArray}{s:ByteArray}{I:Nat}(hI:I<l.length)(hp:I≤place l s)(h:¬l.getD I ⟨#[]⟩=s):I+1≤place l s:=by
 unfold place at*
 rcases Nat.lt_or_ge I (l.findIdx fun x=>decide (x=s))with hlt|hge
 ·exact hlt
 ·have e:l.findIdx (fun x=>decide (x=s))=I:=by omega
  have hlt:l.findIdx (fun x=>decide (x=s))<l.length:=by omega
  have:=List.findIdx_getElem (p:=fun x=>decide (x=s)) (xs:=l) (w:=hlt)
  simp only[decide_eq_true_eq]at this
  have e2:l[I]=s:=by simpa [e]using this
  exact absurd (by simpa [List.getD,hI]using e2) h
theorem find_end{l:List ByteArray}{s:ByteArray}{I:Nat}(hI:¬I<l.length)(hp:I≤place l s):find l s= -1:=by
 unfold find
 rw[if_neg (by omega)]
theorem find_here{l:List ByteArray}{s:ByteArray}{I:Nat}(hI:I<l.length)(h:place l s=I):find l s=I:=by
 unfold find
 rw[h,if_pos hI]
theorem find_any(l:List ByteArray)(s:ByteArray)(p:Nat)(w:World)(hw:w.heap[p]? =some (.cells (strCells l) 9 (0,0)))(hl:l.length≤1000):
  Calls Tryz.prog 180 #[.slice (some ⟨p,0,none⟩) l.length l.length,.string s] w fun e w'=>e= .returned (.int .i64 (find l s))∧w=w':=by
 have HW:=hid hw
 clear hw
 go_enter Tryz.func180,Tryz.ntmps180
 go_wp2
 go_loop [5] (fun i=>Rel l s i) (fun i=>l.length-(intOf i).toNat)
 case atStart=>exact⟨0,by omega,rfl,by omega⟩
 case round=>
  obtain⟨I,hI,rfl,hp⟩:=hrel
  have HP:=hid hp
  clear hp
  by_cases hlt:I<l.length
  ·have hcell:w.cell? ⟨p,I,none⟩=some (.string (l.getD I ⟨#[]⟩)):=by
    rw[cell_of_row w p I _ _ _ HW.out]
    simp[strCells,hlt,List.getD]
   have j:(I:Int)<(l.length:Int):=by omega
   by_cases hx:l.getD I ⟨#[]⟩=s
   ·have HX:=hid (find_here hlt (place_here hlt HP.out hx))
    obtain⟨x,hxe⟩:∃x,x=l.getD I ⟨#[]⟩:=⟨_,rfl⟩
    rw[←hxe]at hcell hx
    have ht:(x.toList==s.toList)=true:=by rw[hx];exact beq_self_eq_true _
    clear hxe hx
    go_wp2
    go_ret
    exact⟨by rw[HX.out];rfl,rfl⟩
   ·have HX:=hid (place_next hlt HP.out hx)
    obtain⟨x,hxe⟩:∃x,x=l.getD I ⟨#[]⟩:=⟨_,rfl⟩
    rw[←hxe]at hcell hx
    have ht:(x.toList==s.toList)=false:=by
     rw[beq_eq_false_iff_ne,ByteArray.toList_eq,ByteArray.toList_eq]
     intro h
     exact hx (ByteArray.ext (Array.toList_inj.1 h))
    clear hxe hx
    go_wp2
    go_round
    case rel=>exact⟨I+1,by omega,by go_num,HX.out⟩
    case measure=>simp[intOf];omega
  ·have HX:=hid (find_end hlt HP.out)
   go_wp2
   go_ret
   exact⟨by rw[HX.out];rfl,rfl⟩
theorem words_list(w:World):Calls Tryz.prog 182 #[] w fun e w'=>e= .returned (.slice (some ⟨w.heap.size,0,none⟩) 17 17)∧Below w.heap.size w w'∧w'.heap[w.heap.size]? =some (.cells (strCells words) 9 (0,0)):=by
 have hb:Below w.heap.size w (w.alloc (.cells (strCells words) 9)):=(Below.refl _ _).alloc (Nat.le_refl _) _
 have hh:=heap_alloc_new w (.cells (strCells words) 9)
 have HF:=hid (And.intro hb hh)
 clear hb hh
 go_enter Tryz.func182,Tryz.ntmps182
 go_wp2
 go_ret
 exact⟨rfl,HF.out⟩
theorem signs_list(w:World):Calls Tryz.prog 183 #[] w fun e w'=>e= .returned (.slice (some ⟨w.heap.size,0,none⟩) 39 39)∧Below w.heap.size w w'∧w'.heap[w.heap.size]? =some (.cells (strCells signs) 9 (0,0)):=by
 have hb:Below w.heap.size w (w.alloc (.cells (strCells signs) 9)):=(Below.refl _ _).alloc (Nat.le_refl _) _
 have hh:=heap_alloc_new w (.cells (strCells signs) 9)
 have HF:=hid (And.intro hb hh)
 clear hb hh
 go_enter Tryz.func183,Tryz.ntmps183
 go_wp2
 go_ret
 exact⟨rfl,HF.out⟩
theorem builtins_list(w:World):Calls Tryz.prog 181 #[] w fun e w'=>e= .returned (.slice (some ⟨w.heap.size,0,none⟩) 21 21)∧Below w.heap.size w w'∧w'.heap[w.heap.size]? =some (.cells (strCells builtins) 9 (0,0)):=by
 have hb:Below w.heap.size w (w.alloc (.cells (strCells builtins) 9)):=(Below.refl _ _).alloc (Nat.le_refl _) _
 have hh:=heap_alloc_new w (.cells (strCells builtins) 9)
 have HF:=hid (And.intro hb hh)
 clear hb hh
 go_enter Tryz.func181,Tryz.ntmps181
 go_wp2
 go_ret
 exact⟨rfl,HF.out⟩
def isIn(l:List ByteArray)(s:ByteArray):Bool:=l.any fun b=>s.toList==b.data.toList
def isBuiltin(s:ByteArray):Bool:=isIn builtins s
theorem same_iff{s b:ByteArray}:(s.toList==b.data.toList)=true↔b=s:=by
 rw[beq_iff_eq,ByteArray.toList_eq]
 refine⟨fun h=>(ByteArray.ext (Array.toList_inj.1 h)).symm,fun h=>by rw[h]⟩
theorem place_lt{l:List ByteArray}{s:ByteArray}:place l s<l.length↔isIn l s=true:=by
 unfold place isIn
 rw[List.findIdx_lt_length,List.any_eq_true]
 simp only[same_iff,decide_eq_true_eq]
theorem find_nonneg{l:List ByteArray}{s:ByteArray}:decide (0≤find l s)=isIn l s:=by
 cases h:isIn l s
 ·have h':¬place l s<l.length:=fun k=>by rw[place_lt.1 k]at h;cases h
  unfold find
  rw[if_neg h']
  decide
 ·have:=place_lt.2 h
  unfold find
  rw[if_pos this]
  simp
theorem spec_builtin(s:ByteArray)(w:World):Calls Tryz.prog 115 #[.string s] w fun e w'=>e= .returned (.bool (isBuiltin s))∧Below w.heap.size w w':=by
 have HE:=hid (show decide (0≤find builtins s)=isBuiltin s from find_nonneg)
 go_enter Tryz.func115,Tryz.ntmps115
 go_wp2_with fail
 refine(builtins_list _).mono ?_
 rintro e w1 ⟨rfl,b1,h1⟩
 have H1:=hid h1
 clear h1
 go_wp2_with fail
 refine(find_any builtins s _ _ H1.out (by decide)).mono ?_
 rintro e w2 ⟨rfl,rfl⟩
 go_wp2
 go_ret
 exact⟨by rw[←HE.out];rfl,b1⟩
theorem impl_builtin(s:ByteArray)(w:World):Calls Tryz.prog 106 #[.string s] w fun e w'=>e= .returned (.bool (isBuiltin s))∧w=w':=by
 by_cases h0:(s.toList==[97,116,97,110,50])=true
 ·have HE:=hid (show isBuiltin s=true by simp[isBuiltin,isIn,builtins,h0])
  go_enter Tryz.func106,Tryz.ntmps106
  go_wp2
  go_ret
  exact⟨by rw[HE.out];rfl,rfl⟩
 rw[Bool.not_eq_true]at h0
 by_cases h1:(s.toList==[99,108,111,115,101])=true
 ·have HE:=hid (show isBuiltin s=true by simp[isBuiltin,isIn,builtins,h1])
  go_enter Tryz.func106,Tryz.ntmps106
  go_wp2
  go_ret
  exact⟨by rw[HE.out];rfl,rfl⟩
 rw[Bool.not_eq_true]at h1
 by_cases h2:(s.toList==[99,111,115])=true
 ·have HE:=hid (show isBuiltin s=true by simp[isBuiltin,isIn,builtins,h2])
  go_enter Tryz.func106,Tryz.ntmps106
  go_wp2
  go_ret
  exact⟨by rw[HE.out];rfl,rfl⟩
 rw[Bool.not_eq_true]at h2
 by_cases h3:(s.toList==[101,120,112])=true
 ·have HE:=hid (show isBuiltin s=true by simp[isBuiltin,isIn,builtins,h3])
  go_enter Tryz.func106,Tryz.ntmps106
  go_wp2
  go_ret
  exact⟨by rw[HE.out];rfl,rfl⟩
 rw[Bool.not_eq_true]at h3
 by_cases h4:(s.toList==[103,115,117,98])=true
 ·have HE:=hid (show isBuiltin s=true by simp[isBuiltin,isIn,builtins,h4])
  go_enter Tryz.func106,Tryz.ntmps106
  go_wp2
  go_ret
  exact⟨by rw[HE.out];rfl,rfl⟩
 rw[Bool.not_eq_true]at h4
 by_cases h5:(s.toList==[105,110,100,101,120])=true
 ·have HE:=hid (show isBuiltin s=true by simp[isBuiltin,isIn,builtins,h5])
  go_enter Tryz.func106,Tryz.ntmps106
  go_wp2
  go_ret
  exact⟨by rw[HE.out];rfl,rfl⟩
 rw[Bool.not_eq_true]at h5
 by_cases h6:(s.toList==[105,110,116])=true
 ·have HE:=hid (show isBuiltin s=true by simp[isBuiltin,isIn,builtins,h6])
  go_enter Tryz.func106,Tryz.ntmps106
  go_wp2
  go_ret
  exact⟨by rw[HE.out];rfl,rfl⟩
 rw[Bool.not_eq_true]at h6
 by_cases h7:(s.toList==[108,101,110,103,116,104])=true
 ·have HE:=hid (show isBuiltin s=true by simp[isBuiltin,isIn,builtins,h7])
  go_enter Tryz.func106,Tryz.ntmps106
  go_wp2
  go_ret
  exact⟨by rw[HE.out];rfl,rfl⟩
 rw[Bool.not_eq_true]at h7
 by_cases h8:(s.toList==[108,111,103])=true
 ·have HE:=hid (show isBuiltin s=true by simp[isBuiltin,isIn,builtins,h8])
  go_enter Tryz.func106,Tryz.ntmps106
  go_wp2
  go_ret
  exact⟨by rw[HE.out];rfl,rfl⟩
 rw[Bool.not_eq_true]at h8
 by_cases h9:(s.toList==[109,97,116,99,104])=true
 ·have HE:=hid (show isBuiltin s=true by simp[isBuiltin,isIn,builtins,h9])
  go_enter Tryz.func106,Tryz.ntmps106
  go_wp2
  go_ret
  exact⟨by rw[HE.out];rfl,rfl⟩
 rw[Bool.not_eq_true]at h9
 by_cases h10:(s.toList==[114,97,110,100])=true
 ·have HE:=hid (show isBuiltin s=true by simp[isBuiltin,isIn,builtins,h10])
  go_enter Tryz.func106,Tryz.ntmps106
  go_wp2
  go_ret
  exact⟨by rw[HE.out];rfl,rfl⟩
 rw[Bool.not_eq_true]at h10
 by_cases h11:(s.toList==[115,105,110])=true
 ·have HE:=hid (show isBuiltin s=true by simp[isBuiltin,isIn,builtins,h11])
  go_enter Tryz.func106,Tryz.ntmps106
  go_wp2
  go_ret
  exact⟨by rw[HE.out];rfl,rfl⟩
 rw[Bool.not_eq_true]at h11
 by_cases h12:(s.toList==[115,112,108,105,116])=true
 ·have HE:=hid (show isBuiltin s=true by simp[isBuiltin,isIn,builtins,h12])
  go_enter Tryz.func106,Tryz.ntmps106
  go_wp2
  go_ret
  exact⟨by rw[HE.out];rfl,rfl⟩
 rw[Bool.not_eq_true]at h12
 by_cases h13:(s.toList==[115,112,114,105,110,116,102])=true
 ·have HE:=hid (show isBuiltin s=true by simp[isBuiltin,isIn,builtins,h13])
  go_enter Tryz.func106,Tryz.ntmps106
  go_wp2
  go_ret
  exact⟨by rw[HE.out];rfl,rfl⟩
 rw[Bool.not_eq_true]at h13
 by_cases h14:(s.toList==[115,113,114,116])=true
 ·have HE:=hid (show isBuiltin s=true by simp[isBuiltin,isIn,builtins,h14])
  go_enter Tryz.func106,Tryz.ntmps106
  go_wp2
  go_ret
  exact⟨by rw[HE.out];rfl,rfl⟩
 rw[Bool.not_eq_true]at h14
 by_cases h15:(s.toList==[115,114,97,110,100])=true
 ·have HE:=hid (show isBuiltin s=true by simp[isBuiltin,isIn,builtins,h15])
  go_enter Tryz.func106,Tryz.ntmps106
  go_wp2
  go_ret
  exact⟨by rw[HE.out];rfl,rfl⟩
 rw[Bool.not_eq_true]at h15
 by_cases h16:(s.toList==[115,117,98])=true
 ·have HE:=hid (show isBuiltin s=true by simp[isBuiltin,isIn,builtins,h16])
  go_enter Tryz.func106,Tryz.ntmps106
  go_wp2
  go_ret
  exact⟨by rw[HE.out];rfl,rfl⟩
 rw[Bool.not_eq_true]at h16
 by_cases h17:(s.toList==[115,117,98,115,116,114])=true
 ·have HE:=hid (show isBuiltin s=true by simp[isBuiltin,isIn,builtins,h17])
  go_enter Tryz.func106,Tryz.ntmps106
  go_wp2
  go_ret
  exact⟨by rw[HE.out];rfl,rfl⟩
 rw[Bool.not_eq_true]at h17
 by_cases h18:(s.toList==[115,121,115,116,101,109])=true
 ·have HE:=hid (show isBuiltin s=true by simp[isBuiltin,isIn,builtins,h18])
  go_enter Tryz.func106,Tryz.ntmps106
  go_wp2
  go_ret
  exact⟨by rw[HE.out];rfl,rfl⟩
 rw[Bool.not_eq_true]at h18
 by_cases h19:(s.toList==[116,111,108,111,119,101,114])=true
 ·have HE:=hid (show isBuiltin s=true by simp[isBuiltin,isIn,builtins,h19])
  go_enter Tryz.func106,Tryz.ntmps106
  go_wp2
  go_ret
  exact⟨by rw[HE.out];rfl,rfl⟩
 rw[Bool.not_eq_true]at h19
 by_cases h20:(s.toList==[116,111,117,112,112,101,114])=true
 ·have HE:=hid (show isBuiltin s=true by simp[isBuiltin,isIn,builtins,h20])
  go_enter Tryz.func106,Tryz.ntmps106
  go_wp2
  go_ret
  exact⟨by rw[HE.out];rfl,rfl⟩
 rw[Bool.not_eq_true]at h20
 have HE:=hid (show isBuiltin s=false by simp[isBuiltin,isIn,builtins,h0,h1,h2,h3,h4,h5,h6,h7,h8,h9,h10,h11,h12,h13,h14,h15,h16,h17,h18,h19,h20])
 go_enter Tryz.func106,Tryz.ntmps106
 go_wp2
 go_ret
 exact⟨by rw[HE.out];rfl,rfl⟩
end Go.Proofs.YtnoagleifffkcaaGreatDoor.toks
