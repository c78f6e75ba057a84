/-

-/
import Derived.Test.YtnoagleifffkcaaGreatDoorZoKindB
import Derived.Test.YtnoagleifffkcaaGreatDoorZoGLx
import Derived.Test.YtnoagleifffkcaaGreatDoorZoNdEq
import Derived.Deep.QuietTactic
import Derived.Deep.RegionHeld3
import Derived.Test.YtnoagleifffkcaaGreatDoorZoGSt
import Derived.Test.YtnoagleifffkcaaGreatDoorZoGDp
namespace Go.Proofs.YtnoagleifffkcaaGreatDoor.rt
open Lib (hid)
open Go.ChangeShapes Go.WideShapes Go.ChangeAt Go.RowKit
open chars (inR)
open spell (Held nameOk)
open toks (isBuiltin)
open tok (tokOk below_box)
set_option linter.unusedVariables false
set_option maxRecDepth 20000
set_option linter.unusedSimpArgs false
def isNode(k:Int):Bool:=isExpr k||k==16||isStmt k||isItem k||k==45
theorem node_in(k:Int):isNode k=(inR k 1 16||inR k 20 34||inR k 40 45):=by
 rw[Bool.eq_iff_iff]
 simp[isNode,isExpr,isStmt,isItem,inR]
 omega
def isBin(op:Int):Bool:=op==60||op==57||op==58||op==59||op==55||op==56||op==99||op==63||op==48||op==47||op==50||op==62||op==49||op==67||op==46||op==45||op==44
def opOk(k op:Int):Bool:=
 if k=9∨k=10 then op==51||op==52
 else if k=11 then op==55||op==56||op==61
 else if k=12 then isBin op
 else if k=15 then op==54||inR op 38 43
 else if k=21 then op==0||op==1
 else if k=42 then inR op 1 3
 else if k=43 then op==1||op==3
 else op==0
def textOk(k:Int)(s:ByteArray):Bool:=
 if k=1∨k=5∨k=7∨k=13∨k=27∨k=32∨k=44 then nameOk s
 else if k=8 then isBuiltin s
 else if k=2 then tokOk 3 s
 else if k=3 then tokOk 4 s
 else if k=4 then tokOk 5 s
 else if k=34 then tokOk 2 s
 else s.toList.isEmpty
def otherOk(k:Int)(t:ByteArray):Bool:=
 if k=21 then t.toList.isEmpty||t.toList==[62]||t.toList==[62,62]||t.toList==[124]
 else if k=32 then nameOk t
 else t.toList.isEmpty
def lim0(k op:Int)(t:ByteArray):Int×Int:=
 if k=6∨k=9∨k=10∨k=11∨k=20∨k=32∨k=40∨k=41 then(1,1)
 else if k=12∨k=15∨k=29∨k=30 then(2,2)
 else if k=14 then(3,3)
 else if k=31 then(4,4)
 else if k=5∨k=13 then(1,6)
 else if k=7∨k=8∨k=27 then(0,6)
 else if k=21 then(if t.toList.isEmpty=true then(op,6)else(op+1,7))
 else if k=23∨k=24 then(0,1)
 else if k=28 then(2,3)
 else if k=42 then(if op=3 then(2,2)else(1,1))
 else if k=43 then(if op=3 then(3,3)else(2,2))
 else if k=44 then(1,7)
 else(0,0)
def lim(mx k op:Int)(t:ByteArray):Int×Int:=if k=33∨k=45 then(0,mx)else lim0 k op t
def many(k op:Int)(t:ByteArray)(n:Int):Bool:=decide ((lim n k op t).1≤n)&&decide (n≤(lim n k op t).2)
theorem many_max{k op:Int}{t:ByteArray}{n mx:Int}(h:n≤mx):many k op t n=(decide ((lim mx k op t).1≤n)&&decide (n≤(lim mx k op t).2)):=by
 unfold many lim
 by_cases hk:k=33∨k=45
 ·simp only[if_pos hk]
  rw[decide_eq_true (Int.le_refl n),decide_eq_true h]
 ·simp only[if_neg hk]
def fieldsOk(k op:Int)(s t:ByteArray)(n:Int):Bool:=isNode k&&opOk k op&&textOk k s&&otherOk k t&&many k op t n
structure Bx(w W:World)(k op:Int)(s t:ByteArray)(v:Value):Prop where
 c0:W.cell? ⟨w.heap.size,0,none⟩=some (.int .i64 k)
 c1:W.cell? ⟨w.heap.size,1,none⟩=some (.int .i64 op)
 c2:W.cell? ⟨w.heap.size,2,none⟩=some (.string s)
 c3:W.cell? ⟨w.heap.size,3,none⟩=some (.string t)
 c4:W.cell? ⟨w.heap.size,4,none⟩=some v
 b:Below w.heap.size w W
 lt:w.heap.size<W.heap.size
theorem Bx.start(w:World)(k op:Int)(s t:ByteArray)(v:Value)(ty:TypeId):Bx w (w.alloc (.cells #[.int .i64 k,.int .i64 op,.string s,.string t,v] ty)) k op s t v:=by
 have hh:=heap_alloc_new w (.cells #[.int .i64 k,.int .i64 op,.string s,.string t,v] ty)
 refine⟨?_, ?_, ?_, ?_, ?_,below_box _ _,by simp⟩
 ·rw[cell_of_row _ _ 0 _ _ _ hh];rfl
 ·rw[cell_of_row _ _ 1 _ _ _ hh];rfl
 ·rw[cell_of_row _ _ 2 _ _ _ hh];rfl
 ·rw[cell_of_row _ _ 3 _ _ _ hh];rfl
 ·rw[cell_of_row _ _ 4 _ _ _ hh];rfl
theorem Bx.keep{w W w1:World}{k op:Int}{s t:ByteArray}{v:Value}(h:Bx w W k op s t v)(hb:Below W.heap.size W w1):Bx w w1 k op s t v:=
 ⟨(hb.cell (p:=⟨w.heap.size,0,none⟩) h.lt).trans h.c0,(hb.cell (p:=⟨w.heap.size,1,none⟩) h.lt).trans h.c1,(hb.cell (p:=⟨w.heap.size,2,none⟩) h.lt).trans h.c2,(hb.cell (p:=⟨w.heap.size,3,none⟩) h.lt).trans h.c3,(hb.cell (p:=⟨w.heap.size,4,none⟩) h.lt).trans h.c4,h.b.trans (hb.mono (Nat.le_of_lt h.lt)),Nat.lt_of_lt_of_le h.lt hb.size⟩
theorem impl_node(k:Int)(w:World):Calls Tryz.prog 134 #[.int .i64 k] w fun e w'=>e= .returned (.bool (isNode k))∧w=w':=by
 go_enter Tryz.func134,Tryz.ntmps134
 go_wp2_with (first|(go_at_call 51;refine(impl_isExpr _ _).mono ?_;rintro e w' ⟨rfl,rfl⟩)|(go_at_call 197;refine(impl_isStmt _ _).mono ?_;rintro e w' ⟨rfl,rfl⟩)|(go_at_call 198;refine(impl_isItem _ _).mono ?_;rintro e w' ⟨rfl,rfl⟩))
 all_goals
  go_ret
  exact⟨congrArg (fun b=>Ending.returned (Value.bool b)) (by simp_all[isNode]),rfl⟩
theorem impl_bin(op:Int)(w:World):Calls Tryz.prog 199 #[.int .i64 op] w fun e w'=>e= .returned (.bool (isBin op))∧w=w':=by
 go_enter Tryz.func199,Tryz.ntmps199
 go_wp2
 all_goals
  go_ret
  exact⟨congrArg (fun b=>Ending.returned (Value.bool b)) (by simp_all[isBin]),rfl⟩
theorem spec_bin(op:Int)(w:World):Calls Tryz.prog 156 #[.int .i64 op] w fun e w'=>e= .returned (.bool (isBin op))∧w=w':=by
 go_enter Tryz.func156,Tryz.ntmps156
 go_wp2
 all_goals
  go_ret
  exact⟨congrArg (fun b=>Ending.returned (Value.bool b)) (by simp_all[isBin]),rfl⟩
theorem spec_asg(op:Int)(w:World):Calls Tryz.prog 157 #[.int .i64 op] w fun e w'=>e= .returned (.bool (op==54||inR op 38 43))∧w=w':=by
 go_enter Tryz.func157,Tryz.ntmps157
 go_wp2_with (go_at_call 30;refine(chars.spec_in _ _ _ _).mono ?_;rintro e w' ⟨rfl,rfl⟩)
 all_goals
  go_ret
  exact⟨congrArg (fun b=>Ending.returned (Value.bool b)) (by simp_all),rfl⟩
set_option maxHeartbeats 1600000 in
theorem impl_opK(k op:Int)(s t:ByteArray)(a:Option Addr)(n cap:Nat)(w:World):Calls Tryz.prog 135 #[.agg #[.int .i64 k,.int .i64 op,.string s,.string t,.slice a n cap]] w fun e w'=>e= .returned (.bool (opOk k op))∧Below w.heap.size w w':=by
 go_enter Tryz.func135,Tryz.ntmps135
 go_wp2_with (go_at_call 199;refine(impl_bin _ _).mono ?_;rintro e w' ⟨rfl,rfl⟩)
 all_goals
  go_ret
  exact⟨congrArg (fun b=>Ending.returned (Value.bool b)) (by first|(simp_all[opOk,inR];done)|(simp_all[opOk,inR];omega)),below_box _ _⟩
set_option maxHeartbeats 1600000 in
theorem spec_opK(k op:Int)(s t:ByteArray)(a:Option Addr)(n cap:Nat)(w:World):Calls Tryz.prog 96 #[.agg #[.int .i64 k,.int .i64 op,.string s,.string t,.slice a n cap]] w fun e w'=>e= .returned (.bool (opOk k op))∧Below w.heap.size w w':=by
 go_enter Tryz.func96,Tryz.ntmps96
 go_wp2_with (first|(go_at_call 156;refine(spec_bin _ _).mono ?_;rintro e w' ⟨rfl,rfl⟩)|(go_at_call 157;refine(spec_asg _ _).mono ?_;rintro e w' ⟨rfl,rfl⟩)|(go_at_call 30;refine(chars.spec_in _ _ _ _).mono ?_;rintro e w' ⟨rfl,rfl⟩))
 all_goals
  go_ret
  exact⟨congrArg (fun b=>Ending.returned (Value.bool b)) (by first|(simp_all[opOk];done)|(rw[Bool.eq_iff_iff];simp_all[opOk,inR];omega)),below_box _ _⟩
set_option maxHeartbeats 1600000 in
theorem impl_text(k op:Int)(s t:ByteArray)(a:Option Addr)(n cap:Nat)(w:World)(hs:s.size≤1048576)(hh:Held w):Calls Tryz.prog 136 #[.agg #[.int .i64 k,.int .i64 op,.string s,.string t,.slice a n cap]] w fun e w'=>e= .returned (.bool (textOk k s))∧Below w.heap.size w w':=by
 have HH:=hid (hh.below (below_box w (.cells #[.int .i64 k,.int .i64 op,.string s,.string t,.slice a n cap] 57)))
 clear hh
 go_enter Tryz.func136,Tryz.ntmps136
 go_wp2_with (first|(go_at_call 105;refine(spell.impl_name s _ hs HH.out).mono ?_;rintro e w' ⟨rfl,rfl⟩)|(go_at_call 106;refine(toks.impl_builtin s _).mono ?_;rintro e w' ⟨rfl,rfl⟩)|(go_at_call 60;refine(tok.impl_tok _ _ s _ hs HH.out).mono ?_;rintro e w1 ⟨rfl,b1⟩))
 all_goals
  go_ret
  exact⟨congrArg (fun b=>Ending.returned (Value.bool b)) (by simp_all[textOk]),by first|exact below_box _ _|exact(below_box w _).trans ((by assumption:Below _ _ _).mono (by simp))⟩
set_option maxHeartbeats 1600000 in
theorem impl_other(k op:Int)(s t:ByteArray)(a:Option Addr)(n cap:Nat)(w:World)(ht:t.size≤1048576)(hh:Held w):Calls Tryz.prog 137 #[.agg #[.int .i64 k,.int .i64 op,.string s,.string t,.slice a n cap]] w fun e w'=>e= .returned (.bool (otherOk k t))∧Below w.heap.size w w':=by
 have HH:=hid (hh.below (below_box w (.cells #[.int .i64 k,.int .i64 op,.string s,.string t,.slice a n cap] 57)))
 clear hh
 go_enter Tryz.func137,Tryz.ntmps137
 go_wp2_with (go_at_call 105;refine(spell.impl_name t _ ht HH.out).mono ?_;rintro e w' ⟨rfl,rfl⟩)
 all_goals
  go_ret
  exact⟨congrArg (fun b=>Ending.returned (Value.bool b)) (by simp_all[otherOk]),below_box _ _⟩
theorem impl_prl(k op:Int)(s t:ByteArray)(a:Option Addr)(n cap:Nat)(w:World)(h0:0≤op)(h1:op≤3):Calls Tryz.prog 200 #[.agg #[.int .i64 k,.int .i64 op,.string s,.string t,.slice a n cap]] w fun e w'=>e= .returned (.tuple (if t.toList.isEmpty=true then#[.int .i64 op,.int .i64 6]else#[.int .i64 (op+1),.int .i64 7]))∧Below w.heap.size w w':=by
 go_enter Tryz.func200,Tryz.ntmps200
 go_wp2
 all_goals
  go_ret2
  exact⟨by simp_all,below_box _ _⟩
theorem impl_rul(k op:Int)(s t:ByteArray)(a:Option Addr)(n cap:Nat)(w:World)(m:Int)(h0:0≤m)(h1:m≤3):Calls Tryz.prog 201 #[.agg #[.int .i64 k,.int .i64 op,.string s,.string t,.slice a n cap],.int .i64 m] w fun e w'=>e= .returned (.tuple (if op=3 then#[.int .i64 (m+1),.int .i64 (m+1)]else#[.int .i64 m,.int .i64 m]))∧Below w.heap.size w w':=by
 go_enter Tryz.func201,Tryz.ntmps201
 go_wp2
 all_goals
  go_ret2
  exact⟨by simp_all,below_box _ _⟩
theorem op_print{op:Int}(h:opOk 21 op=true):0≤op∧op≤3:=by
 simp[opOk]at h
 omega
set_option maxHeartbeats 3200000 in
theorem impl_lim(k op:Int)(s t:ByteArray)(a:Option Addr)(n cap:Nat)(w:World)(ho:opOk k op=true):Calls Tryz.prog 138 #[.agg #[.int .i64 k,.int .i64 op,.string s,.string t,.slice a n cap]] w fun e w'=>e= .returned (.tuple #[.int .i64 (lim 9223372036854775807 k op t).1,.int .i64 (lim 9223372036854775807 k op t).2])∧Below w.heap.size w w':=by
 by_cases h21:k=21
 ·subst h21
  obtain⟨h0,h1⟩:=op_print ho
  cases ht:t.toList.isEmpty
  ·go_enter Tryz.func138,Tryz.ntmps138
   go_wp2_with fail
   refine(impl_prl _ _ _ _ _ _ _ _ h0 h1).mono ?_
   rw[ht]
   rintro e w1 ⟨rfl,b1⟩
   go_wp2
   go_ret2
   exact⟨by simp[lim,lim0,ht],(below_box w _).trans (b1.mono (by simp))⟩
  ·go_enter Tryz.func138,Tryz.ntmps138
   go_wp2_with fail
   refine(impl_prl _ _ _ _ _ _ _ _ h0 h1).mono ?_
   rw[ht]
   rintro e w1 ⟨rfl,b1⟩
   go_wp2
   go_ret2
   exact⟨by simp[lim,lim0,ht],(below_box w _).trans (b1.mono (by simp))⟩
 have HO:=hid ho
 clear ho
 by_cases h42:k=42∨k=43
 ·by_cases h3:op=3
  ·subst h3
   rcases h42 with rfl|rfl
   all_goals
    go_enter Tryz.func138,Tryz.ntmps138
    go_wp2_with fail
    refine(impl_rul _ _ _ _ _ _ _ _ _ (by decide) (by decide)).mono ?_
    rw[if_pos rfl]
    rintro e w1 ⟨rfl,b1⟩
    go_wp2
    go_ret2
    exact⟨by simp[lim,lim0],(below_box w _).trans (b1.mono (by simp))⟩
  ·rcases h42 with rfl|rfl
   all_goals
    go_enter Tryz.func138,Tryz.ntmps138
    go_wp2_with fail
    refine(impl_rul _ _ _ _ _ _ _ _ _ (by decide) (by decide)).mono ?_
    rw[if_neg h3]
    rintro e w1 ⟨rfl,b1⟩
    go_wp2
    go_ret2
    exact⟨by simp[lim,lim0,h3],(below_box w _).trans (b1.mono (by simp))⟩
 obtain⟨j,-⟩:=ne_facts h21
 obtain⟨F,-⟩:=ne_facts (fun e=>h42 (.inl e))
 obtain⟨y,-⟩:=ne_facts (fun e=>h42 (.inr e))
 go_enter Tryz.func138,Tryz.ntmps138
 go_wp2
 all_goals
  go_ret2
  exact⟨by simp_all[lim,lim0],below_box _ _⟩
end Go.Proofs.YtnoagleifffkcaaGreatDoor.rt

namespace Go.Proofs.YtnoagleifffkcaaGreatDoor.rt
open Lib (hid)
open Go.ChangeShapes Go.WideShapes Go.ChangeAt Go.RowKit
open chars (inR)
open spell (Held nameOk)
open toks (isBuiltin)
open tok (tokOk below_box)
set_option linter.unusedVariables false
set_option maxRecDepth 20000
set_option linter.unusedSimpArgs false
set_option maxHeartbeats 1600000 in
theorem spec_text(k op:Int)(s t:ByteArray)(a:Option Addr)(n cap:Nat)(w:World)(hs:s.size≤1048576)(ht:t.size≤1048576):Calls Tryz.prog 97 #[.agg #[.int .i64 k,.int .i64 op,.string s,.string t,.slice a n cap]] w fun e w'=>e= .returned (.bool (textOk k s&&otherOk k t))∧Below w.heap.size w w':=by
 by_cases h32:k=32
 ·subst h32
  have HS:=Bx.start w 32 op s t (.slice a n cap) 57
  cases hn:nameOk s
  ·go_enter Tryz.func97,Tryz.ntmps97
   go_wp2_with fail
   refine(spell.spec_name s _ hs).mono ?_
   rw[hn]
   rintro e w1 ⟨rfl,b1⟩
   go_wp2
   go_ret
   exact⟨congrArg (fun b=>Ending.returned (Value.bool b)) (by simp[textOk,hn]),(HS.keep b1).b⟩
  ·go_enter Tryz.func97,Tryz.ntmps97
   go_wp2_with fail
   refine(spell.spec_name s _ hs).mono ?_
   rw[hn]
   rintro e w1 ⟨rfl,b1⟩
   obtain⟨c0,c1,c2,c3,c4,bb,lt⟩:=HS.keep b1
   go_wp2_with fail
   refine(spell.spec_name t _ ht).mono ?_
   rintro e w2 ⟨rfl,b2⟩
   go_wp2
   go_ret
   exact⟨congrArg (fun b=>Ending.returned (Value.bool b)) (by simp[textOk,otherOk,hn]),bb.trans (b2.mono (Nat.le_of_lt lt))⟩
 obtain⟨j,-⟩:=ne_facts h32
 have HS:=Bx.start w k op s t (.slice a n cap) 57
 go_enter Tryz.func97,Tryz.ntmps97
 go_wp2_with (first|(go_at_call 114;refine(spell.spec_name s _ hs).mono ?_;rintro e w1 ⟨rfl,b1⟩;obtain⟨c0,c1,c2,c3,c4,bb,lt⟩:=HS.keep b1)|(go_at_call 115;refine(toks.spec_builtin s _).mono ?_;rintro e w1 ⟨rfl,b1⟩;obtain⟨c0,c1,c2,c3,c4,bb,lt⟩:=HS.keep b1)|(go_at_call 65;refine(tok.spec_tok _ _ s _ hs).mono ?_;rintro e w1 ⟨rfl,b1⟩;obtain⟨c0,c1,c2,c3,c4,bb,lt⟩:=HS.keep b1))
 all_goals
  go_ret
  exact⟨congrArg (fun b=>Ending.returned (Value.bool b)) (by clear HS;simp_all[textOk,otherOk]),by first|exact below_box _ _|assumption⟩
set_option maxHeartbeats 3200000 in
theorem spec_many(k op:Int)(s t:ByteArray)(a:Option Addr)(n cap:Nat)(w:World)(hn:n≤1048576):Calls Tryz.prog 95 #[.agg #[.int .i64 k,.int .i64 op,.string s,.string t,.slice a n cap]] w fun e w'=>(∃x y:Int,e= .returned (.tuple #[.int .i64 x,.int .i64 y])∧(opOk k op=true→x=(lim n k op t).1∧y=(lim n k op t).2))∧Below w.heap.size w w':=by
 by_cases h33:k=33∨k=45
 ·have hl:lim n k op t=(0,(n:Int)):=by unfold lim;rw[if_pos h33]
  rcases h33 with rfl|rfl
  all_goals
   go_enter Tryz.func95,Tryz.ntmps95
   go_wp2
   go_quiet (fail)
   go_wp2
   go_ret2
   exact⟨⟨_,_,rfl,fun _=>by rw[hl];exact⟨rfl,rfl⟩⟩,tok.below_drewN (below_box _ _) _⟩
 obtain⟨G,-⟩:=ne_facts (fun e=>h33 (.inl e))
 obtain⟨J,-⟩:=ne_facts (fun e=>h33 (.inr e))
 by_cases ho:opOk k op=true
 ·by_cases h42:k=42
  ·subst h42
   have:op=1∨op=2∨op=3:=by simp[opOk,inR]at ho;omega
   clear ho
   rcases this with rfl|rfl|rfl
   all_goals
    go_enter Tryz.func95,Tryz.ntmps95
    go_wp2
    go_quiet (fail)
    go_wp2
    go_ret2
    exact⟨⟨_,_,rfl,fun _=>by simp[lim,lim0]⟩,tok.below_drewN (below_box _ _) _⟩
  by_cases h43:k=43
  ·subst h43
   have:op=1∨op=3:=by simp[opOk]at ho;omega
   clear ho
   rcases this with rfl|rfl
   all_goals
    go_enter Tryz.func95,Tryz.ntmps95
    go_wp2
    go_quiet (fail)
    go_wp2
    go_ret2
    exact⟨⟨_,_,rfl,fun _=>by simp[lim,lim0]⟩,tok.below_drewN (below_box _ _) _⟩
  by_cases h21:k=21
  ·subst h21
   obtain⟨o0,o1⟩:=op_print ho
   clear ho
   go_enter Tryz.func95,Tryz.ntmps95
   go_wp2
   all_goals
    go_ret2
    exact⟨⟨_,_,rfl,fun _=>by simp_all[lim,lim0]⟩,below_box _ _⟩
  obtain⟨F,-⟩:=ne_facts h42
  obtain⟨j,-⟩:=ne_facts h43
  obtain⟨I,-⟩:=ne_facts h21
  clear ho
  go_enter Tryz.func95,Tryz.ntmps95
  go_wp2
  all_goals
   first
    |(exfalso;simp_all;done)
    |(go_ret2;exact⟨⟨_,_,rfl,fun _=>by simp_all[lim,lim0]⟩,below_box _ _⟩)
 ·have HO:=hid ho
  clear ho
  by_cases h42:k=42∨k=43
  ·rcases h42 with rfl|rfl
   all_goals
    go_enter Tryz.func95,Tryz.ntmps95
    go_wp2
    go_quiet (fail)
    go_wp2
    go_ret2
    exact⟨⟨_,_,rfl,fun h=>absurd h HO.out⟩,tok.below_drewN (below_box _ _) _⟩
  obtain⟨F,-⟩:=ne_facts (fun e=>h42 (.inl e))
  obtain⟨j,-⟩:=ne_facts (fun e=>h42 (.inr e))
  go_enter Tryz.func95,Tryz.ntmps95
  go_wp2
  all_goals
   first
    |(exfalso;simp_all;done)
    |(go_ret2;exact⟨⟨_,_,rfl,fun h=>absurd h HO.out⟩,below_box _ _⟩)
set_option maxHeartbeats 3200000 in
theorem impl_fields(k op:Int)(s t:ByteArray)(a:Option Addr)(n cap:Nat)(w:World)(hs:s.size≤1048576)(ht:t.size≤1048576)(hn:n≤1048576)(hh:Held w):Calls Tryz.prog 87 #[.agg #[.int .i64 k,.int .i64 op,.string s,.string t,.slice a n cap]] w fun e w'=>e= .returned (.bool (fieldsOk k op s t n))∧Below w.heap.size w w':=by
 have HH:=hid hh
 clear hh
 have HS:=Bx.start w k op s t (.slice a n cap) 57
 have hnn:(n:Int)≤9223372036854775807:=by omega
 cases e0:isNode k
 ·go_enter Tryz.func87,Tryz.ntmps87
  go_wp2_with fail
  refine(impl_node k _).mono ?_
  rw[e0]
  rintro e w' ⟨rfl,rfl⟩
  go_wp2
  go_ret
  exact⟨congrArg (fun b=>Ending.returned (Value.bool b)) (by simp[fieldsOk,e0]),HS.b⟩
 ·cases e1:opOk k op
  ·go_enter Tryz.func87,Tryz.ntmps87
   go_wp2_with fail
   refine(impl_node k _).mono ?_
   rw[e0]
   rintro e w' ⟨rfl,rfl⟩
   go_wp2_with fail
   refine(impl_opK k op s t a n cap _).mono ?_
   rw[e1]
   rintro e w1 ⟨rfl,b1⟩
   have B1:=hid (HS.keep b1)
   obtain⟨I,G,j,J,F,-,-⟩:=B1.out
   go_wp2
   go_ret
   exact⟨congrArg (fun b=>Ending.returned (Value.bool b)) (by simp[fieldsOk,e0,e1]),B1.b⟩
  ·cases e2:textOk k s
   ·go_enter Tryz.func87,Tryz.ntmps87
    go_wp2_with fail
    refine(impl_node k _).mono ?_
    rw[e0]
    rintro e w' ⟨rfl,rfl⟩
    go_wp2_with fail
    refine(impl_opK k op s t a n cap _).mono ?_
    rw[e1]
    rintro e w1 ⟨rfl,b1⟩
    have B1:=hid (HS.keep b1)
    obtain⟨I,G,j,J,F,-,-⟩:=B1.out
    go_wp2_with fail
    refine(impl_text k op s t a n cap _ hs (HH.below B1.b)).mono ?_
    rw[e2]
    rintro e w2 ⟨rfl,b2⟩
    have B2:=hid (B1.keep b2)
    obtain⟨V,O,S,K,P,-,-⟩:=B2.out
    go_wp2
    go_ret
    exact⟨congrArg (fun b=>Ending.returned (Value.bool b)) (by simp[fieldsOk,e0,e1,e2]),B2.b⟩
   ·cases e3:otherOk k t
    ·go_enter Tryz.func87,Tryz.ntmps87
     go_wp2_with fail
     refine(impl_node k _).mono ?_
     rw[e0]
     rintro e w' ⟨rfl,rfl⟩
     go_wp2_with fail
     refine(impl_opK k op s t a n cap _).mono ?_
     rw[e1]
     rintro e w1 ⟨rfl,b1⟩
     have B1:=hid (HS.keep b1)
     obtain⟨I,G,j,J,F,-,-⟩:=B1.out
     go_wp2_with fail
     refine(impl_text k op s t a n cap _ hs (HH.below B1.b)).mono ?_
     rw[e2]
     rintro e w2 ⟨rfl,b2⟩
     have B2:=hid (B1.keep b2)
     obtain⟨V,O,S,K,P,-,-⟩:=B2.out
     go_wp2_with fail
     refine(impl_other k op s t a n cap _ ht (HH.below B2.b)).mono ?_
     rw[e3]
     rintro e w3 ⟨rfl,b3⟩
     have B3:=hid (B2.keep b3)
     obtain⟨aa,X,Y,ab,Z,-,-⟩:=B3.out
     go_wp2
     go_ret
     exact⟨congrArg (fun b=>Ending.returned (Value.bool b)) (by simp[fieldsOk,e0,e1,e2,e3]),B3.b⟩
    ·have HM:=hid (many_max (k:=k) (op:=op) (t:=t) hnn)
     obtain⟨x,hx⟩:∃x,x=(lim 9223372036854775807 k op t).1:=⟨_,rfl⟩
     obtain⟨y,hy⟩:∃y,y=(lim 9223372036854775807 k op t).2:=⟨_,rfl⟩
     have HX:=hid hx
     have HY:=hid hy
     clear hx hy
     go_enter Tryz.func87,Tryz.ntmps87
     go_wp2_with fail
     refine(impl_node k _).mono ?_
     rw[e0]
     rintro e w' ⟨rfl,rfl⟩
     go_wp2_with fail
     refine(impl_opK k op s t a n cap _).mono ?_
     rw[e1]
     rintro e w1 ⟨rfl,b1⟩
     have B1:=hid (HS.keep b1)
     obtain⟨I,G,j,J,F,-,-⟩:=B1.out
     go_wp2_with fail
     refine(impl_text k op s t a n cap _ hs (HH.below B1.b)).mono ?_
     rw[e2]
     rintro e w2 ⟨rfl,b2⟩
     have B2:=hid (B1.keep b2)
     obtain⟨V,O,S,K,P,-,-⟩:=B2.out
     go_wp2_with fail
     refine(impl_other k op s t a n cap _ ht (HH.below B2.b)).mono ?_
     rw[e3]
     rintro e w3 ⟨rfl,b3⟩
     have B3:=hid (B2.keep b3)
     obtain⟨aa,X,Y,ab,Z,-,-⟩:=B3.out
     go_wp2_with fail
     refine(impl_lim k op s t a n cap _ e1).mono ?_
     rw[←HX.out,←HY.out]
     rintro e w4 ⟨rfl,b4⟩
     have B4:=hid (B3.keep b4)
     obtain⟨ac,ae,ag,af,ad,-,-⟩:=B4.out
     go_wp2
     all_goals
      go_ret
      exact⟨congrArg (fun b=>Ending.returned (Value.bool b)) (by rw[fieldsOk,e0,e1,e2,e3,HM.out,←HX.out,←HY.out];first|(simp_all;done)|(simp_all;omega)),B4.b⟩
set_option maxHeartbeats 3200000 in
theorem spec_fields(k op:Int)(s t:ByteArray)(a:Option Addr)(n cap:Nat)(w:World)(hs:s.size≤1048576)(ht:t.size≤1048576)(hn:n≤1048576):Calls Tryz.prog 58 #[.agg #[.int .i64 k,.int .i64 op,.string s,.string t,.slice a n cap]] w fun e w'=>e= .returned (.bool (fieldsOk k op s t n))∧Below w.heap.size w w':=by
 have HS:=Bx.start w k op s t (.slice a n cap) 57
 have HI:=hid (node_in k)
 go_enter Tryz.func58,Tryz.ntmps58
 go_wp2_with fail
 refine(spec_many k op s t a n cap _ hn).mono ?_
 rintro e w0 ⟨⟨x,y,rfl,hxy⟩,b0⟩
 have HXY:=hid hxy
 have B0:=hid (HS.keep b0)
 obtain⟨aa,X,ab,Y,Z,-,-⟩:=B0.out
 clear hxy
 cases e0:isNode k
 ·have HZ:=hid (HI.symm.trans e0)
  go_wp2_with (go_at_call 30;refine(chars.spec_in _ _ _ _).mono ?_;rintro e w' ⟨rfl,rfl⟩)
  all_goals
   first
    |(exfalso;have:=HZ.out;simp_all;done)
    |(go_ret;exact⟨congrArg (fun b=>Ending.returned (Value.bool b)) (by have:=HZ.out;simp_all[fieldsOk]),B0.b⟩)
 have HZ:=hid (HI.symm.trans e0)
 have HF:=hid (show fieldsOk k op s t n=(opOk k op&&(textOk k s&&otherOk k t)&&many k op t n) by unfold fieldsOk;rw[e0];simp[Bool.and_assoc])
 have HMy:=hid (show many k op t n=inR n (lim n k op t).1 (lim n k op t).2 from rfl)
 clear e0
 cases e1:opOk k op
 ·have HY:=hid (show fieldsOk k op s t n=false by rw[HF.out,e1];rfl)
  go_wp2_with (first|(go_at_call 30;refine(chars.spec_in _ _ _ _).mono ?_;rintro e w' ⟨rfl,rfl⟩)|(go_at_call 96;refine(spec_opK k op s t a n cap _).mono ?_;rw[e1];rintro e w1 ⟨rfl,b1⟩;have B1:=hid (B0.keep b1);obtain⟨F,G,j,I,J,-,-⟩:=B1.out))
  all_goals
   first
    |(exfalso;have:=HZ.out;simp_all;done)
    |(go_ret;exact⟨congrArg (fun b=>Ending.returned (Value.bool b)) (by rw[HY.out]),(by assumption:Hid (Bx w _ k op s t _)).out.b⟩)
 obtain⟨rfl,rfl⟩:=HXY.out e1
 obtain⟨x,hx⟩:∃x,x=(lim n k op t).1:=⟨_,rfl⟩
 obtain⟨y,hy⟩:∃y,y=(lim n k op t).2:=⟨_,rfl⟩
 rw[←hx,←hy]
 have HX:=hid hx
 have HY:=hid hy
 clear hx hy
 cases e2:(textOk k s&&otherOk k t)
 ·have HQ:=hid (show fieldsOk k op s t n=false by rw[HF.out,e2,Bool.and_false];rfl)
  go_wp2_with (first|(go_at_call 30;refine(chars.spec_in _ _ _ _).mono ?_;rintro e w' ⟨rfl,rfl⟩)|(go_at_call 96;refine(spec_opK k op s t a n cap _).mono ?_;rw[e1];rintro e w1 ⟨rfl,b1⟩;have B1:=hid (B0.keep b1);obtain⟨F,G,j,I,J,-,-⟩:=B1.out)|(go_at_call 97;refine(spec_text k op s t a n cap _ hs ht).mono ?_;rw[e2];rintro e w2 ⟨rfl,b2⟩;have B2:=hid ((by assumption:Hid (Bx w _ k op s t _)).out.keep b2);obtain⟨S,P,K,O,V,-,-⟩:=B2.out))
  all_goals
   first
    |(exfalso;have:=HZ.out;simp_all;done)
    |(go_ret;exact⟨congrArg (fun b=>Ending.returned (Value.bool b)) (by rw[HQ.out]),(by assumption:Hid (Bx w _ k op s t _)).out.b⟩)
 ·have HQ:=hid (show fieldsOk k op s t n=inR n x y by rw[HF.out,e1,e2,HMy.out,HX.out,HY.out];rfl)
  go_wp2_with (first|(go_at_call 30;refine(chars.spec_in _ _ _ _).mono ?_;rintro e w' ⟨rfl,rfl⟩)|(go_at_call 96;refine(spec_opK k op s t a n cap _).mono ?_;rw[e1];rintro e w1 ⟨rfl,b1⟩;have B1:=hid (B0.keep b1);obtain⟨F,G,j,I,J,-,-⟩:=B1.out)|(go_at_call 97;refine(spec_text k op s t a n cap _ hs ht).mono ?_;rw[e2];rintro e w2 ⟨rfl,b2⟩;have B2:=hid ((by assumption:Hid (Bx w _ k op s t _)).out.keep b2);obtain⟨S,P,K,O,V,-,-⟩:=B2.out))
  all_goals
   first
    |(exfalso;have:=HZ.out;simp_all;done)
    |(go_ret;exact⟨congrArg (fun b=>Ending.returned (Value.bool b)) (by rw[HQ.out]),(by assumption:Hid (Bx w _ k op s t _)).out.b⟩)
end Go.Proofs.YtnoagleifffkcaaGreatDoor.rt

namespace Go.Proofs.YtnoagleifffkcaaGreatDoor.rt
open Lib (hid)
open Go.ChangeShapes Go.WideShapes Go.ChangeAt Go.RowKit
open chars (inR)
open tok (below_box)
set_option linter.unusedVariables false
set_option linter.unusedSimpArgs false
def wants(k op n p:Int):Bool:=
 if k=28∨k=29 then decide (0<p)
 else if k=30 then p==0
 else if k=32∨k=40∨k=41 then true
 else if k=31∨k=44 then p==n-1
 else if k=42∨k=43 then p==n-1&&op !=1
 else false
def kidI(wb:Bool)(k p q:Int):Bool:=
 if wb=true then q==33
 else if k=9∨k=10 then isLval q
 else if k=15 then isExpr q&&(decide (0<p)||isLval q)
 else if k=31 then isExpr q||q==16
 else if k=33 then isStmt q
 else if k=44 then q==1
 else if k=45 then isItem q||q==34
 else isExpr q
def kid(k op n p q:Int):Bool:=
 if k=9∨k=10 then isLval q
 else if k=15 then isExpr q&&(decide (0<p)||isLval q)
 else if k=28 then(p==0&&isExpr q)||(decide (0<p)&&q==33)
 else if k=29 then(p==0&&isExpr q)||(p==1&&q==33)
 else if k=30 then(p==0&&q==33)||(p==1&&isExpr q)
 else if k=31 then(decide (p<3)&&(isExpr q||q==16))||(p==3&&q==33)
 else if k=32∨k=40∨k=41 then q==33
 else if k=33 then isStmt q
 else if k=42 then(op==1&&isExpr q)||(op==2&&q==33)||(op==3&&((p==n-1&&q==33)||(!(p==n-1)&&isExpr q)))
 else if k=43 then(decide (p<2)&&isExpr q)||(p==2&&q==33)
 else if k=44 then(p==n-1&&q==33)||(!(p==n-1)&&q==1)
 else if k=45 then isItem q||q==34
 else isExpr q
theorem fields_parts{k op:Int}{s t:ByteArray}{n:Int}(h:fieldsOk k op s t n=true):opOk k op=true∧(lim n k op t).1≤n∧n≤(lim n k op t).2:=by
 simp[fieldsOk,many]at h
 exact⟨h.1.1.1.2,h.2.1,h.2.2⟩
theorem kid_eq{k op:Int}{s t:ByteArray}{n p q:Int}(h:fieldsOk k op s t n=true)(h0:0≤p)(h1:p<n):kidI (wants k op n p) k p q=kid k op n p q:=by
 obtain⟨ho,l0,l1⟩:=fields_parts h
 clear h
 by_cases h28:k=28
 ·subst h28
  by_cases hp:p=0
  ·subst hp;simp[kidI,wants,kid]
  ·have h2:0<p:=by omega
   simp[kidI,wants,kid,hp,h2]
 by_cases h29:k=29
 ·subst h29
  simp[lim,lim0]at l0 l1
  obtain rfl|rfl:p=0∨p=1:=by omega
  ·simp[kidI,wants,kid]
  ·simp[kidI,wants,kid]
 by_cases h30:k=30
 ·subst h30
  simp[lim,lim0]at l0 l1
  obtain rfl|rfl:p=0∨p=1:=by omega
  ·simp[kidI,wants,kid]
  ·simp[kidI,wants,kid]
 by_cases h31:k=31
 ·subst h31
  simp[lim,lim0]at l0 l1
  obtain rfl:n=4:=by omega
  obtain rfl|rfl|rfl|rfl:p=0∨p=1∨p=2∨p=3:=by omega
  all_goals simp[kidI,wants,kid]
 by_cases h32:k=32∨k=40∨k=41
 ·rcases h32 with rfl|rfl|rfl
  all_goals simp[kidI,wants,kid]
 by_cases h42:k=42
 ·subst h42
  obtain rfl|rfl|rfl:op=1∨op=2∨op=3:=by simp[opOk,inR]at ho;omega
  all_goals simp[lim,lim0]at l0 l1
  ·simp[kidI,wants,kid]
  ·obtain rfl:n=1:=by omega
   obtain rfl:p=0:=by omega
   simp[kidI,wants,kid]
  ·obtain rfl:n=2:=by omega
   obtain rfl|rfl:p=0∨p=1:=by omega
   all_goals simp[kidI,wants,kid]
 by_cases h43:k=43
 ·subst h43
  obtain rfl|rfl:op=1∨op=3:=by simp[opOk]at ho;omega
  all_goals simp[lim,lim0]at l0 l1
  ·obtain rfl:n=2:=by omega
   obtain rfl|rfl:p=0∨p=1:=by omega
   all_goals simp[kidI,wants,kid]
  ·obtain rfl:n=3:=by omega
   obtain rfl|rfl|rfl:p=0∨p=1∨p=2:=by omega
   all_goals simp[kidI,wants,kid]
 by_cases h44:k=44
 ·subst h44
  by_cases hp:p=n-1
  ·subst hp;simp[kidI,wants,kid]
  ·have hf:(p==n-1)=false:=by simpa using hp
   simp[kidI,wants,kid,hf]
 have hw:wants k op n p=false:=by simp[wants,h28,h29,h30,h31,h44,h42,h43,h32]
 rw[hw]
 simp only[kidI,kid]
 simp[h28,h29,h30,h31,h44,h42,h43,h32]
set_option maxHeartbeats 1600000 in
theorem impl_wants(k op:Int)(s t:ByteArray)(a:Option Addr)(n cap:Nat)(p:Int)(w:World)(hn:n≤1048576):Calls Tryz.prog 202 #[.agg #[.int .i64 k,.int .i64 op,.string s,.string t,.slice a n cap],.int .i64 p] w fun e w'=>e= .returned (.bool (wants k op n p))∧Below w.heap.size w w':=by
 go_enter Tryz.func202,Tryz.ntmps202
 go_wp2
 all_goals
  go_ret
  exact⟨congrArg (fun b=>Ending.returned (Value.bool b)) (by simp_all[wants]),by first|exact below_box _ _|exact tok.below_drewN (below_box _ _) _⟩
set_option maxHeartbeats 3200000 in
theorem impl_kidW(k op:Int)(s t:ByteArray)(a:Option Addr)(n cap:Nat)(p:Int)(w:World)(hn:n≤1048576)(q:Int):Calls Tryz.prog 139 #[.agg #[.int .i64 k,.int .i64 op,.string s,.string t,.slice a n cap],.int .i64 p,.int .i64 q] w fun e w'=>e= .returned (.bool (kidI (wants k op n p) k p q))∧Below w.heap.size w w':=by
 have HS:=Bx.start w k op s t (.slice a n cap) 57
 cases hw:wants k op n p
 ·go_enter Tryz.func139,Tryz.ntmps139
  go_wp2_with fail
  refine(impl_wants k op s t a n cap p _ hn).mono ?_
  rw[hw]
  rintro e w1 ⟨rfl,b1⟩
  have B1:=hid (HS.keep b1)
  obtain⟨c0,c1,c2,c3,c4,-,-⟩:=B1.out
  clear HS hw b1
  go_wp2_with (first|(go_at_call 203;refine(impl_isLval _ _).mono ?_;rintro e w' ⟨rfl,rfl⟩)|(go_at_call 51;refine(impl_isExpr _ _).mono ?_;rintro e w' ⟨rfl,rfl⟩)|(go_at_call 197;refine(impl_isStmt _ _).mono ?_;rintro e w' ⟨rfl,rfl⟩)|(go_at_call 198;refine(impl_isItem _ _).mono ?_;rintro e w' ⟨rfl,rfl⟩))
  all_goals
   go_ret
   exact⟨congrArg (fun b=>Ending.returned (Value.bool b)) (by clear c0 c1 c2 c3 c4;simp_all[kidI]),B1.b⟩
 ·go_enter Tryz.func139,Tryz.ntmps139
  go_wp2_with fail
  refine(impl_wants k op s t a n cap p _ hn).mono ?_
  rw[hw]
  rintro e w1 ⟨rfl,b1⟩
  go_wp2
  go_ret
  exact⟨congrArg (fun b=>Ending.returned (Value.bool b)) (by simp[kidI]),(HS.keep b1).b⟩
set_option maxRecDepth 20000 in
set_option maxHeartbeats 3200000 in
theorem spec_kid(k op:Int)(s t:ByteArray)(a:Option Addr)(n cap:Nat)(p:Int)(w:World)(hn:n≤1048576)(q:Int)(h0:0≤p):Calls Tryz.prog 59 #[.agg #[.int .i64 k,.int .i64 op,.string s,.string t,.slice a n cap],.int .i64 p,.int .i64 q] w fun e w'=>e= .returned (.bool (kid k op n p q))∧Below w.heap.size w w':=by
 go_enter Tryz.func59,Tryz.ntmps59
 go_wp2_with (first|(go_at_call 98;refine(spec_isLval _ _).mono ?_;rintro e w' ⟨rfl,rfl⟩)|(go_at_call 29;refine(spec_isExpr _ _).mono ?_;rintro e w' ⟨rfl,rfl⟩)|(go_at_call 99;refine(spec_isStmt _ _).mono ?_;rintro e w' ⟨rfl,rfl⟩)|(go_at_call 30;refine(chars.spec_in _ _ _ _).mono ?_;rintro e w' ⟨rfl,rfl⟩))
 all_goals
  go_ret
  exact⟨congrArg (fun b=>Ending.returned (Value.bool b)) (by first|(simp_all[kid,isItem];done)|(simp_all[kid];omega)|(simp_all[kid];intro h;omega)),by first|exact below_box _ _|exact tok.below_drewN (below_box _ _) _⟩
end Go.Proofs.YtnoagleifffkcaaGreatDoor.rt

namespace Go.Proofs.YtnoagleifffkcaaGreatDoor.rt
open Lib (hid)
open Go.ChangeShapes Go.WideShapes Go.ChangeAt Go.RowKit
open spell (Held)
open nd
open tok (below_box)
set_option linter.unusedVariables false
set_option linter.unusedSimpArgs false
def nodeF(t:Nd):Bool:=fieldsOk t.k t.op t.s t.t t.kids.length
def kidAt(l:List Nd)(t:Nd)(p:Nat):Bool:=kid t.k t.op t.kids.length p (l.getD (t.kids.getD p 0).toNat default).k
def kidsTo(l:List Nd)(t:Nd)(J:Nat):Bool:=(List.range J).all (kidAt l t)
def nodeAt(l:List Nd)(i:Nat):Bool:=nodeF (l.getD i default)&&kidsTo l (l.getD i default) (l.getD i default).kids.length
def nodesTo(l:List Nd)(I:Nat):Bool:=(List.range I).all (nodeAt l)
def treeOk(l:List Nd):Bool:=nd.shape l&&decide (depthF l≤40)&&nodesTo l l.length
theorem kidsTo_step{l:List Nd}{t:Nd}{J:Nat}(h:kidsTo l t J=true)(h1:kidAt l t J=true):kidsTo l t (J+1)=true:=by
 unfold kidsTo at*
 rw[List.range_succ,List.all_append,h]
 simp[h1]
theorem kidsTo_dead{l:List Nd}{t:Nd}{J n:Nat}(hJ:J<n)(h1:kidAt l t J=false):kidsTo l t n=false:=by
 unfold kidsTo
 rw[List.all_eq_false]
 exact⟨J,List.mem_range.2 hJ,by rw[h1];simp⟩
theorem nodesTo_step{l:List Nd}{I:Nat}(h:nodesTo l I=true)(h1:nodeAt l I=true):nodesTo l (I+1)=true:=by
 unfold nodesTo at*
 rw[List.range_succ,List.all_append,h]
 simp[h1]
theorem nodesTo_dead{l:List Nd}{I n:Nat}(hI:I<n)(h1:nodeAt l I=false):nodesTo l n=false:=by
 unfold nodesTo
 rw[List.all_eq_false]
 exact⟨I,List.mem_range.2 hI,by rw[h1];simp⟩
theorem nodeAt_of{l:List Nd}{I:Nat}(hI:I<l.length):nodeAt l I=(nodeF l[I]&&kidsTo l l[I] l[I].kids.length):=by
 unfold nodeAt
 rw[List.getD_eq_getElem?_getD,List.getElem?_eq_getElem hI]
 rfl
theorem kidAt_of{l:List Nd}{t:Nd}{J K:Nat}(hJ:J<t.kids.length)(hK:t.kids[J]=(K:Int))(hl:K<l.length):kidAt l t J=kid t.k t.op t.kids.length J l[K].k:=by
 have e1:t.kids.getD J 0=(K:Int):=by rw[List.getD_eq_getElem?_getD,List.getElem?_eq_getElem hJ,Option.getD_some,hK]
 have e2:l.getD K default=l[K]:=by rw[List.getD_eq_getElem?_getD,List.getElem?_eq_getElem hl];rfl
 unfold kidAt
 rw[e1,Int.toNat_natCast,e2]
def Rk(w:World)(b o:Nat)(t:Nd)(ak:Option Addr)(ck bk oj:Nat)(K:Int)(oK:Nat)(q:Int)(W:World):Prop:=
 (W.cell? ⟨b,o,none⟩=some (.int .i64 t.k)∧W.cell? ⟨b,o+1,none⟩=some (.int .i64 t.op)∧W.cell? ⟨b,o+2,none⟩=some (.string t.s)∧W.cell? ⟨b,o+3,none⟩=some (.string t.t)∧W.cell? ⟨b,o+4,none⟩=some (.slice ak t.kids.length ck)∧W.cell? ⟨bk,oj,none⟩=some (.int .i64 K)∧W.cell? ⟨b,oK,none⟩=some (.int .i64 q))∧Below w.heap.size w W∧w.heap.size≤W.heap.size
theorem Rk.drew{w W:World}{b o:Nat}{t:Nd}{ak:Option Addr}{ck bk oj:Nat}{K:Int}{oK:Nat}{q:Int}(h:Rk w b o t ak ck bk oj K oK q W):Rk w b o t ak ck bk oj K oK q W.drew:=⟨h.1,h.2.1.drew,h.2.2⟩
theorem Rk.keep{w W w1:World}{b o:Nat}{t:Nd}{ak:Option Addr}{ck bk oj:Nat}{K:Int}{oK:Nat}{q:Int}(hb:b<w.heap.size)(hbk:bk<w.heap.size)(h:Rk w b o t ak ck bk oj K oK q W)(hk:Below W.heap.size W w1):Rk w b o t ak ck bk oj K oK q w1:=by
 have hb':b<W.heap.size:=Nat.lt_of_lt_of_le hb h.2.2
 have hbk':bk<W.heap.size:=Nat.lt_of_lt_of_le hbk h.2.2
 exact⟨⟨(hk.cell (p:=⟨b,o,none⟩) hb').trans h.1.1,(hk.cell (p:=⟨b,o+1,none⟩) hb').trans h.1.2.1,(hk.cell (p:=⟨b,o+2,none⟩) hb').trans h.1.2.2.1,(hk.cell (p:=⟨b,o+3,none⟩) hb').trans h.1.2.2.2.1,(hk.cell (p:=⟨b,o+4,none⟩) hb').trans h.1.2.2.2.2.1,(hk.cell (p:=⟨bk,oj,none⟩) hbk').trans h.1.2.2.2.2.2.1,(hk.cell (p:=⟨b,oK,none⟩) hb').trans h.1.2.2.2.2.2.2⟩,h.2.1.trans (hk.mono h.2.2),Nat.le_trans h.2.2 hk.size⟩
def RelTi(w:World)(l:List Nd)(i:Value)(wr:World):Prop:=
 ∃I:Nat,I≤l.length∧i= .int .i64 (I:Int)∧nodesTo l I=true∧Below w.heap.size w wr
def RelTk(w:World)(l:List Nd)(t:Nd)(k:Value)(wr:World):Prop:=
 ∃J:Nat,J≤t.kids.length∧k= .int .i64 (J:Int)∧kidsTo l t J=true∧Below w.heap.size w wr
set_option maxRecDepth 20000 in
set_option maxHeartbeats 3200000 in
theorem spec_tree(l:List Nd)(a:Option Addr)(cap:Nat)(w:World)(hn:l.length≤1048576)(hk:∀t∈l,t.kids.length≤1048576)(hs:∀t∈l,t.s.size≤1048576∧t.t.size≤1048576)(hc:Lies w.heap.size w a l):
  Calls Tryz.prog 28 #[.slice a l.length cap] w fun e w'=>e= .returned (.bool (treeOk l))∧Below w.heap.size w w':=by
 have HC:=hid hc
 have HK:=hid hk
 have HS:=hid hs
 have HN:=hid hn
 clear hc hk hs
 cases hsh:nd.shape l
 ·have HE:=hid (show treeOk l=false by unfold treeOk;rw[hsh];rfl)
  go_enter Tryz.func28,Tryz.ntmps28
  go_wp2_with fail
  refine(spec_shape l a cap _ hn HK.out HC.out).mono ?_
  rw[hsh]
  rintro e w1 ⟨rfl,b1⟩
  go_wp2
  go_ret
  exact⟨by rw[HE.out];rfl,b1⟩
 have HSH:=hid hsh
 by_cases hd:40<depthF l
 ·have HE:=hid (show treeOk l=false by unfold treeOk;rw[decide_eq_false (by omega),Bool.and_false];rfl)
  obtain⟨D,hD⟩:∃D,D=depthF l:=⟨_,rfl⟩
  rw[←hD]at hd
  have HD:=hid hD
  have X:40<(D:Int):=by omega
  clear hD hd
  go_enter Tryz.func28,Tryz.ntmps28
  go_wp2_with fail
  refine(spec_shape l a cap _ hn HK.out HC.out).mono ?_
  rw[HSH.out]
  rintro e w1 ⟨rfl,b1⟩
  go_wp2_with fail
  refine(spec_depth l a cap _ HN.out HK.out (HC.on b1 (Nat.le_refl _))).mono ?_
  rw[←HD.out]
  rintro e w2 ⟨rfl,b2⟩
  go_wp2
  go_ret
  exact⟨by rw[HE.out];rfl,b1.trans (b2.mono b1.size)⟩
 have HE:=hid (show treeOk l=nodesTo l l.length by unfold treeOk;rw[hsh,decide_eq_true (by omega)];rfl)
 have HAT:=hid (fun i (hi:i<l.length)=>(shape_at hsh hi).2)
 obtain⟨D,hD⟩:∃D,D=depthF l:=⟨_,rfl⟩
 rw[←hD]at hd
 have HD:=hid hD
 have X:¬40<(D:Int):=by omega
 obtain⟨n,hln⟩:∃n,n=l.length:=⟨_,rfl⟩
 have HLN:=hid hln
 have HX:=hid (spec_shape l a cap w hn HK.out HC.out)
 have P:=hid (fun w1 (b1:Below w.heap.size w w1)=>spec_depth l a cap w1 HN.out HK.out (HC.on b1 (Nat.le_refl _)))
 rw[←hln]at hn HX P⊢
 clear hD hd hsh hln
 go_enter Tryz.func28,Tryz.ntmps28
 go_wp2_with fail
 refine HX.mono ?_
 rw[HSH.out]
 rintro e w1 ⟨rfl,b1⟩
 go_wp2_with fail
 refine(P.out _ b1).mono ?_
 rw[←HD.out]
 rintro e w2 ⟨rfl,b2⟩
 have Z:=hid (b1.trans (b2.mono b1.size))
 clear b1 b2
 go_wp2
 go_loopw [3] (fun i wr=>RelTi w l i wr) (fun i _=>n-(intOf i).toNat)
 case atStart=>exact⟨0,by omega,rfl,rfl,Z.out⟩
 case round=>
  obtain⟨I,hI,rfl,hto,hbel⟩:=hrel
  have HTO:=hid hto
  have HB:=hid hbel
  rw[←HLN.out]at hI
  clear hto hbel
  by_cases hlt:I<n
  ·have hltl:I<l.length:=by have:=HLN.out;omega
   obtain⟨b,o,rfl,hb,hcell⟩:=nd.lies_at HC.out hltl
   have HCELL:=hid hcell
   obtain⟨ak,ck,⟨c0,c1,c2,c3,c4⟩,hik⟩:=(hcell I hltl).keep HB.out (Nat.le_refl _) hb
   have S:=hid (hcell I hltl)
   have HNA:=hid (nodeAt_of hltl)
   have HKK:=hid (HK.out l[I] (List.getElem_mem hltl))
   have HSS:=hid (HS.out l[I] (List.getElem_mem hltl))
   have HKM:=hid (HAT.out I hltl)
   obtain⟨t,ht⟩:∃t,t=l[I]:=⟨_,rfl⟩
   rw[←ht]at c0 c1 c2 c3 c4 hik HNA HKK HSS HKM S
   have HTL:=hid ht
   have HIK:=hid hik
   have hkl:=HKK.out
   have aa:(I:Int)<(n:Int):=by omega
   have af:(0:Int)≤(I:Int):=by omega
   clear ht hcell hik
   cases hf:nodeF t
   ·have HDD:=hid (nodesTo_dead hltl (HNA.trans (by rw[hf];rfl)))
    go_wp2_with fail
    refine(spec_fields t.k t.op t.s t.t ak t.kids.length ck _ HSS.out.1 HSS.out.2 HKK.out).mono ?_
    rw[show fieldsOk t.k t.op t.s t.t t.kids.length=false from hf]
    rintro e w3 ⟨rfl,b3⟩
    go_wp2
    go_ret
    exact⟨by rw[HE.out,HDD.out];rfl,HB.trans (b3.mono HB.size)⟩
   ·have HF:=hid hf
    go_wp2_with fail
    refine(spec_fields t.k t.op t.s t.t ak t.kids.length ck _ HSS.out.1 HSS.out.2 HKK.out).mono ?_
    rw[show fieldsOk t.k t.op t.s t.t t.kids.length=true from hf]
    rintro e w3 ⟨rfl,b3⟩
    have V:=hid (HB.trans (b3.mono HB.size))
    clear c0 c1 c2 c3 c4 b3 hf
    go_wp2
    go_loopw [4] (fun k Y=>RelTk w l t k Y) (fun k _=>t.kids.length-(intOf k).toNat)
    case atStart=>exact⟨0,by omega,rfl,rfl,V.out⟩
    case round=>
     obtain⟨J,hJ,rfl,hkt,G⟩:=hrel
     have HKT:=hid hkt
     have j:=hid G
     clear hkt G
     obtain⟨ad,F,⟨c0,c1,c2,c3,c4⟩,hik⟩:=S.keep j.out (Nat.le_refl _) hb
     by_cases hjt:J<t.kids.length
     ·obtain⟨bk,ok,rfl,hbk,hkc⟩:=nd.ints_at hik hjt
      have d0:=hkc J hjt
      have hmem:=HKM.out _ (List.getElem_mem hjt)
      obtain⟨y,hy⟩:∃y,y=t.kids[J]:=⟨_,rfl⟩
      rw[←hy]at d0 hmem
      obtain⟨K,rfl⟩:∃K:Nat,y=(K:Int):=⟨y.toNat,by omega⟩
      have hKl:K<l.length:=by omega
      have HKA:=hid (kidAt_of hjt hy.symm hKl)
      obtain⟨_,_,⟨e0,-⟩,-⟩:=(HCELL.out K hKl).keep j.out (Nat.le_refl _) hb
      obtain⟨q,hq⟩:∃q,q=l[K].k:=⟨_,rfl⟩
      rw[←hq]at e0 HKA
      have HR:=hid (show Rk w b (o+I*5) t (some ⟨bk,ok,none⟩) F bk (ok+J) (K:Int) (o+K*5) q wr from⟨⟨c0,c1,c2,c3,c4,d0,e0⟩,j.out,j.size⟩)
      have ac:(J:Int)<(t.kids.length:Int):=by omega
      have O:(0:Int)≤(J:Int):=by omega
      have ae:(K:Int)<(n:Int):=by have:=HLN.out;omega
      have ab:(0:Int)≤(K:Int):=by omega
      clear hy hq hkc hik hmem c0 c1 c2 c3 d0 e0
      cases hkk:kid t.k t.op t.kids.length J q
      ·have HDD:=hid (nodesTo_dead hltl (HNA.trans (by rw[kidsTo_dead hjt (HKA.trans hkk),Bool.and_false])))
       have HQ:=hid hkk
       clear hkk
       go_wp2
       go_region_held3 (fun w'=>(w'.cell? ⟨b,o+I*5,none⟩=some (.int .i64 t.k)∧w'.cell? ⟨b,o+I*5+1,none⟩=some (.int .i64 t.op)∧w'.cell? ⟨b,o+I*5+2,none⟩=some (.string t.s)∧w'.cell? ⟨b,o+I*5+3,none⟩=some (.string t.t)∧w'.cell? ⟨b,o+I*5+4,none⟩=some (.slice (some ⟨bk,ok,none⟩) t.kids.length F)∧w'.cell? ⟨bk,ok+J,none⟩=some (.int .i64 (K:Int))∧w'.cell? ⟨b,o+K*5,none⟩=some (.int .i64 q))∧(Below w.heap.size w w'∧w.heap.size≤w'.heap.size))
        (first|exact HR.out|exact HR.drew|exact Rk.keep hb hbk (by assumption) (by assumption)|exact Rk.drew (by assumption))
        (first|(go_at_call 59;refine(spec_kid t.k t.op t.s t.t _ t.kids.length F J _ hkl q O).mono ?_;rw[HQ.out];rintro e w5 ⟨rfl,b5⟩))
       have HBZ:=hid (by assumption:_∧(Below w.heap.size w _∧_)).2.1
       go_wp2
       go_ret
       exact⟨by rw[HE.out,HDD.out];rfl,HBZ.out⟩
      ·have HST:=hid (kidsTo_step HKT.out (HKA.trans hkk))
       have HQ:=hid hkk
       clear hkk
       go_wp2
       go_region_held3 (fun w'=>(w'.cell? ⟨b,o+I*5,none⟩=some (.int .i64 t.k)∧w'.cell? ⟨b,o+I*5+1,none⟩=some (.int .i64 t.op)∧w'.cell? ⟨b,o+I*5+2,none⟩=some (.string t.s)∧w'.cell? ⟨b,o+I*5+3,none⟩=some (.string t.t)∧w'.cell? ⟨b,o+I*5+4,none⟩=some (.slice (some ⟨bk,ok,none⟩) t.kids.length F)∧w'.cell? ⟨bk,ok+J,none⟩=some (.int .i64 (K:Int))∧w'.cell? ⟨b,o+K*5,none⟩=some (.int .i64 q))∧(Below w.heap.size w w'∧w.heap.size≤w'.heap.size))
        (first|exact HR.out|exact HR.drew|exact Rk.keep hb hbk (by assumption) (by assumption)|exact Rk.drew (by assumption))
        (first|(go_at_call 59;refine(spec_kid t.k t.op t.s t.t _ t.kids.length F J _ hkl q O).mono ?_;rw[HQ.out];rintro e w5 ⟨rfl,b5⟩))
       have HBZ:=hid (by assumption:_∧(Below w.heap.size w _∧_)).2.1
       go_wp2
       go_roundw
       case rel=>exact⟨J+1,by omega,by go_num,HST.out,HBZ.out⟩
       case measure=>simp[intOf];omega
     ·obtain rfl:J=t.kids.length:=by omega
      have HNX:=hid (nodesTo_step HTO.out (HNA.trans (by rw[HF.out,HKT.out];rfl)))
      go_wp2
      go_roundw
      case rel=>exact⟨I+1,by have:=HLN.out;omega,by go_num,HNX.out,j.out⟩
      case measure=>simp[intOf];omega
  ·obtain rfl:I=n:=by omega
   have HDD:=hid (show nodesTo l l.length=true by rw[←HLN.out];exact HTO.out)
   go_wp2
   go_ret
   exact⟨by rw[HE.out,HDD.out];rfl,HB.out⟩
theorem Bx.drew{w W:World}{k op:Int}{s t:ByteArray}{v:Value}(h:Bx w W k op s t v):Bx w W.drew k op s t v:=⟨h.c0,h.c1,h.c2,h.c3,h.c4,h.b.drew,h.lt⟩
def Rb(w:World)(b oK:Nat)(q k op:Int)(s t:ByteArray)(v:Value)(W:World):Prop:=
 ((W.cell? ⟨w.heap.size,0,none⟩=some (.int .i64 k)∧W.cell? ⟨w.heap.size,1,none⟩=some (.int .i64 op)∧W.cell? ⟨w.heap.size,2,none⟩=some (.string s)∧W.cell? ⟨w.heap.size,3,none⟩=some (.string t)∧W.cell? ⟨w.heap.size,4,none⟩=some v)∧W.cell? ⟨b,oK,none⟩=some (.int .i64 q))∧Bx w W k op s t v
theorem Rb.of{w W:World}{b oK:Nat}{q k op:Int}{s t:ByteArray}{v:Value}(hb:b<w.heap.size)(h:w.cell? ⟨b,oK,none⟩=some (.int .i64 q))(hx:Bx w W k op s t v):Rb w b oK q k op s t v W:=
 ⟨⟨⟨hx.c0,hx.c1,hx.c2,hx.c3,hx.c4⟩,(hx.b.cell (p:=⟨b,oK,none⟩) hb).trans h⟩,hx⟩
def RelIk(w:World)(l:List Nd)(t:Nd)(v:Value)(k:Value)(wr:World):Prop:=
 ∃J:Nat,J≤t.kids.length∧k= .int .i64 (J:Int)∧kidsTo l t J=true∧Bx w wr t.k t.op t.s t.t v
set_option maxRecDepth 20000 in
set_option maxHeartbeats 3200000 in
theorem impl_kids(l:List Nd)(a:Option Addr)(cap:Nat)(t:Nd)(ak:Option Addr)(ck:Nat)(w:World)(hn:l.length≤1048576)(hkl:t.kids.length≤1048576)(hc:Lies w.heap.size w a l)(hik:Ints w.heap.size w ak t.kids)
  (hkm:∀k∈t.kids,0≤k∧k<(l.length:Int)) (hf:nodeF t=true):
  Calls Tryz.prog 88 #[.slice a l.length cap,.agg #[.int .i64 t.k,.int .i64 t.op,.string t.s,.string t.t,.slice ak t.kids.length ck]] w fun e w'=>e= .returned (.bool (kidsTo l t t.kids.length))∧Below w.heap.size w w':=by
 have HC:=hid hc
 have HIK:=hid hik
 have HKM:=hid hkm
 have HF:=hid (show fieldsOk t.k t.op t.s t.t t.kids.length=true from hf)
 have G:=hid (Bx.start w t.k t.op t.s t.t (.slice ak t.kids.length ck) 57)
 obtain⟨n,hln⟩:∃n,n=l.length:=⟨_,rfl⟩
 have HLN:=hid hln
 rw[←hln]at hn⊢
 clear hc hik hkm hf hln
 go_enter Tryz.func88,Tryz.ntmps88
 go_wp2
 go_loopw [10] (fun k wr=>RelIk w l t (.slice ak t.kids.length ck) k wr) (fun k _=>t.kids.length-(intOf k).toNat)
 case atStart=>exact⟨0,by omega,rfl,rfl,G.out⟩
 case round=>
  obtain⟨J,hJ,rfl,hkt,hx⟩:=hrel
  have HKT:=hid hkt
  have HX:=hid hx
  clear hkt hx
  by_cases hjt:J<t.kids.length
  ·obtain⟨bk,ok,rfl,hbk,hkc⟩:=nd.ints_at HIK.out hjt
   have d0:=(HX.b.cell (p:=⟨bk,ok+J,none⟩) hbk).trans (hkc J hjt)
   have hmem:=HKM.out _ (List.getElem_mem hjt)
   obtain⟨y,hy⟩:∃y,y=t.kids[J]:=⟨_,rfl⟩
   rw[←hy]at d0 hmem
   obtain⟨K,rfl⟩:∃K:Nat,y=(K:Int):=⟨y.toNat,by omega⟩
   have hKl:K<l.length:=by omega
   have HKA:=hid (kidAt_of hjt hy.symm hKl)
   obtain⟨b,o,rfl,hb,hcell⟩:=nd.lies_at HC.out hKl
   obtain⟨_,_,⟨e0,-⟩,-⟩:=hcell K hKl
   obtain⟨q,hq⟩:∃q,q=l[K].k:=⟨_,rfl⟩
   rw[←hq]at e0 HKA
   have j:=hid e0
   have I:(J:Int)<(t.kids.length:Int):=by omega
   have F:(0:Int)≤(J:Int):=by omega
   have P:(K:Int)<(n:Int):=by have:=HLN.out;omega
   have O:(0:Int)≤(K:Int):=by omega
   have HQE:=hid (kid_eq (q:=q) HF.out F I)
   clear hy hq hkc hmem e0 hcell
   cases hkk:kid t.k t.op t.kids.length J q
   ·have HDD:=hid (kidsTo_dead hjt (HKA.trans hkk))
    have HQ:=hid (HQE.trans hkk)
    clear hkk
    go_wp2
    go_region_held3 (fun w'=>((w'.cell? ⟨w.heap.size,0,none⟩=some (.int .i64 t.k)∧w'.cell? ⟨w.heap.size,1,none⟩=some (.int .i64 t.op)∧w'.cell? ⟨w.heap.size,2,none⟩=some (.string t.s)∧w'.cell? ⟨w.heap.size,3,none⟩=some (.string t.t)∧w'.cell? ⟨w.heap.size,4,none⟩=some (.slice (some ⟨bk,ok,none⟩) t.kids.length ck))∧w'.cell? ⟨b,o+K*5,none⟩=some (.int .i64 q))∧Bx w w' t.k t.op t.s t.t (.slice (some ⟨bk,ok,none⟩) t.kids.length ck))
     (first|exact Rb.of hb j.out HX.out|exact Rb.of hb j.out HX.drew|exact Rb.of hb j.out ((by assumption:_∧Bx _ _ _ _ _ _ _).2.keep (by assumption))|exact Rb.of hb j.out (by assumption:_∧Bx _ _ _ _ _ _ _).2.drew)
     (first|(go_at_call 139;refine(impl_kidW t.k t.op t.s t.t _ t.kids.length ck J _ hkl q).mono ?_;rw[HQ.out];rintro e w5 ⟨rfl,b5⟩))
    have HBZ:=hid (by assumption:_∧Bx w _ _ _ _ _ _).2
    go_wp2
    go_ret
    exact⟨by rw[HDD.out];rfl,HBZ.b⟩
   ·have HST:=hid (kidsTo_step HKT.out (HKA.trans hkk))
    have HQ:=hid (HQE.trans hkk)
    clear hkk
    go_wp2
    go_region_held3 (fun w'=>((w'.cell? ⟨w.heap.size,0,none⟩=some (.int .i64 t.k)∧w'.cell? ⟨w.heap.size,1,none⟩=some (.int .i64 t.op)∧w'.cell? ⟨w.heap.size,2,none⟩=some (.string t.s)∧w'.cell? ⟨w.heap.size,3,none⟩=some (.string t.t)∧w'.cell? ⟨w.heap.size,4,none⟩=some (.slice (some ⟨bk,ok,none⟩) t.kids.length ck))∧w'.cell? ⟨b,o+K*5,none⟩=some (.int .i64 q))∧Bx w w' t.k t.op t.s t.t (.slice (some ⟨bk,ok,none⟩) t.kids.length ck))
     (first|exact Rb.of hb j.out HX.out|exact Rb.of hb j.out HX.drew|exact Rb.of hb j.out ((by assumption:_∧Bx _ _ _ _ _ _ _).2.keep (by assumption))|exact Rb.of hb j.out (by assumption:_∧Bx _ _ _ _ _ _ _).2.drew)
     (first|(go_at_call 139;refine(impl_kidW t.k t.op t.s t.t _ t.kids.length ck J _ hkl q).mono ?_;rw[HQ.out];rintro e w5 ⟨rfl,b5⟩))
    have HBZ:=hid (by assumption:_∧Bx w _ _ _ _ _ _).2
    go_wp2
    go_roundw
    case rel=>exact⟨J+1,by omega,by go_num,HST.out,HBZ.out⟩
    case measure=>simp[intOf];omega
  ·obtain rfl:J=t.kids.length:=by omega
   go_wp2
   go_ret
   exact⟨by rw[HKT.out];rfl,HX.b⟩
set_option maxRecDepth 20000 in
set_option maxHeartbeats 3200000 in
theorem impl_tree(l:List Nd)(a:Option Addr)(cap:Nat)(w:World)(hn:l.length≤1048576)(hk:∀t∈l,t.kids.length≤1048576)(hs:∀t∈l,t.s.size≤1048576∧t.t.size≤1048576)(hc:Lies w.heap.size w a l)(hh:Held w):
  Calls Tryz.prog 50 #[.slice a l.length cap] w fun e w'=>e= .returned (.bool (treeOk l))∧Below w.heap.size w w':=by
 have HC:=hid hc
 have HK:=hid hk
 have HS:=hid hs
 have HN:=hid hn
 have HH:=hid hh
 clear hc hk hs hh
 cases hsh:nd.shape l
 ·have HE:=hid (show treeOk l=false by unfold treeOk;rw[hsh];rfl)
  go_enter Tryz.func50,Tryz.ntmps50
  go_wp2_with fail
  refine(impl_shape l a cap _ hn HK.out HC.out).mono ?_
  rw[hsh]
  rintro e w1 ⟨rfl,b1⟩
  go_wp2
  go_ret
  exact⟨by rw[HE.out];rfl,b1⟩
 have HSH:=hid hsh
 by_cases hd:40<depthF l
 ·have HE:=hid (show treeOk l=false by unfold treeOk;rw[decide_eq_false (by omega),Bool.and_false];rfl)
  obtain⟨D,hD⟩:∃D,D=depthF l:=⟨_,rfl⟩
  rw[←hD]at hd
  have HD:=hid hD
  have K:40<(D:Int):=by omega
  clear hD hd
  go_enter Tryz.func50,Tryz.ntmps50
  go_wp2_with fail
  refine(impl_shape l a cap _ hn HK.out HC.out).mono ?_
  rw[HSH.out]
  rintro e w1 ⟨rfl,b1⟩
  go_wp2_with fail
  refine(impl_depth l a cap _ HN.out HK.out (HC.on b1 (Nat.le_refl _))).mono ?_
  rw[←HD.out]
  rintro e w2 ⟨rfl,b2⟩
  go_wp2
  go_ret
  exact⟨by rw[HE.out];rfl,b1.trans (b2.mono b1.size)⟩
 have HE:=hid (show treeOk l=nodesTo l l.length by unfold treeOk;rw[hsh,decide_eq_true (by omega)];rfl)
 have HAT:=hid (fun i (hi:i<l.length)=>(shape_at hsh hi).2)
 obtain⟨D,hD⟩:∃D,D=depthF l:=⟨_,rfl⟩
 rw[←hD]at hd
 have HD:=hid hD
 have K:¬40<(D:Int):=by omega
 obtain⟨n,hln⟩:∃n,n=l.length:=⟨_,rfl⟩
 have HLN:=hid hln
 have HX:=hid (impl_shape l a cap w hn HK.out HC.out)
 have J:=hid (fun w1 (b1:Below w.heap.size w w1)=>impl_depth l a cap w1 HN.out HK.out (HC.on b1 (Nat.le_refl _)))
 rw[←hln]at hn HX J⊢
 clear hD hd hsh hln
 go_enter Tryz.func50,Tryz.ntmps50
 go_wp2_with fail
 refine HX.mono ?_
 rw[HSH.out]
 rintro e w1 ⟨rfl,b1⟩
 go_wp2_with fail
 refine(J.out _ b1).mono ?_
 rw[←HD.out]
 rintro e w2 ⟨rfl,b2⟩
 have S:=hid (b1.trans (b2.mono b1.size))
 clear b1 b2
 go_wp2
 go_loopw [15] (fun i wr=>RelTi w l i wr) (fun i _=>n-(intOf i).toNat)
 case atStart=>exact⟨0,by omega,rfl,rfl,S.out⟩
 case round=>
  obtain⟨I,hI,rfl,hto,hbel⟩:=hrel
  have HTO:=hid hto
  have HB:=hid hbel
  rw[←HLN.out]at hI
  clear hto hbel
  by_cases hlt:I<n
  ·have hltl:I<l.length:=by have:=HLN.out;omega
   obtain⟨b,o,rfl,hb,hcell⟩:=nd.lies_at HC.out hltl
   have HCELL:=hid hcell
   obtain⟨ak,ck,⟨c0,c1,c2,c3,c4⟩,hik⟩:=(hcell I hltl).keep HB.out (Nat.le_refl _) hb
   have P:=hid (hcell I hltl)
   have HNA:=hid (nodeAt_of hltl)
   have HKK:=hid (HK.out l[I] (List.getElem_mem hltl))
   have HSS:=hid (HS.out l[I] (List.getElem_mem hltl))
   have HKM:=hid (HAT.out I hltl)
   obtain⟨t,ht⟩:∃t,t=l[I]:=⟨_,rfl⟩
   rw[←ht]at c0 c1 c2 c3 c4 hik HNA HKK HSS HKM P
   have HTL:=hid ht
   have HIK:=hid hik
   have hkl:=HKK.out
   have V:(I:Int)<(n:Int):=by omega
   have X:(0:Int)≤(I:Int):=by omega
   clear ht hcell hik
   have G:=hid (Bx.start wr t.k t.op t.s t.t (.slice ak t.kids.length ck) 57)
   cases hf:nodeF t
   ·have HDD:=hid (nodesTo_dead hltl (HNA.trans (by rw[hf];rfl)))
    go_wp2_with fail
    refine(impl_fields t.k t.op t.s t.t ak t.kids.length ck _ HSS.out.1 HSS.out.2 HKK.out (HH.below (HB.trans (G.b.mono HB.size)))).mono ?_
    rw[show fieldsOk t.k t.op t.s t.t t.kids.length=false from hf]
    rintro e w3 ⟨rfl,b3⟩
    have j:=hid (G.keep b3)
    go_wp2
    go_ret
    exact⟨by rw[HE.out,HDD.out];rfl,HB.trans (j.b.mono HB.size)⟩
   have HF:=hid hf
   clear hf
   cases hkk:kidsTo l t t.kids.length
   ·have HDD:=hid (nodesTo_dead hltl (HNA.trans (by rw[hkk,Bool.and_false])))
    go_wp2_with fail
    refine(impl_fields t.k t.op t.s t.t ak t.kids.length ck _ HSS.out.1 HSS.out.2 HKK.out (HH.below (HB.trans (G.b.mono HB.size)))).mono ?_
    rw[show fieldsOk t.k t.op t.s t.t t.kids.length=true from HF.out]
    rintro e w3 ⟨rfl,b3⟩
    have j:=hid (G.keep b3)
    have y:=hid (HB.trans (j.b.mono HB.size))
    obtain⟨x0,x1,x2,x3,x4,-,-⟩:=j.out
    go_wp2_with fail
    have F:=impl_kids l (some ⟨b,o,none⟩) cap t ak ck w3 HN.out HKK.out (HC.on y.out (Nat.le_refl _)) (((HIK.keep j.b HB.size).up (Nat.le_trans HB.size j.b.size))) (fun k hk=>⟨(HKM.out k hk).1,by have:=(HKM.out k hk).2;omega⟩) HF.out
    rw[←HLN.out]at F
    refine F.mono ?_
    clear F
    rw[hkk]
    rintro e w4 ⟨rfl,b4⟩
    go_wp2
    go_ret
    exact⟨by rw[HE.out,HDD.out];rfl,y.trans (b4.mono y.size)⟩
   ·have HNX:=hid (nodesTo_step HTO.out (HNA.trans (by rw[HF.out,hkk];rfl)))
    go_wp2_with fail
    refine(impl_fields t.k t.op t.s t.t ak t.kids.length ck _ HSS.out.1 HSS.out.2 HKK.out (HH.below (HB.trans (G.b.mono HB.size)))).mono ?_
    rw[show fieldsOk t.k t.op t.s t.t t.kids.length=true from HF.out]
    rintro e w3 ⟨rfl,b3⟩
    have j:=hid (G.keep b3)
    have y:=hid (HB.trans (j.b.mono HB.size))
    obtain⟨x0,x1,x2,x3,x4,-,-⟩:=j.out
    go_wp2_with fail
    have F:=impl_kids l (some ⟨b,o,none⟩) cap t ak ck w3 HN.out HKK.out (HC.on y.out (Nat.le_refl _)) (((HIK.keep j.b HB.size).up (Nat.le_trans HB.size j.b.size))) (fun k hk=>⟨(HKM.out k hk).1,by have:=(HKM.out k hk).2;omega⟩) HF.out
    rw[←HLN.out]at F
    refine F.mono ?_
    clear F
    rw[hkk]
    rintro e w4 ⟨rfl,b4⟩
    have O:=hid (y.trans (b4.mono y.size))
    go_wp2
    go_roundw
    case rel=>exact⟨I+1,by have:=HLN.out;omega,by go_num,HNX.out,O.out⟩
    case measure=>simp[intOf];omega
  ·obtain rfl:I=n:=by omega
   have HDD:=hid (show nodesTo l l.length=true by rw[←HLN.out];exact HTO.out)
   go_wp2
   go_ret
   exact⟨by rw[HE.out,HDD.out];rfl,HB.out⟩
def lastK(l:List Nd):Int:=(l.getD (l.length-1) default).k
def exprOk(l:List Nd):Bool:=treeOk l&&isExpr (lastK l)
def progOk(l:List Nd):Bool:=treeOk l&&(lastK l==45)
set_option maxHeartbeats 1600000 in
theorem spec_expr(l:List Nd)(a:Option Addr)(cap:Nat)(w:World)(hn:l.length≤1048576)(hk:∀t∈l,t.kids.length≤1048576)(hs:∀t∈l,t.s.size≤1048576∧t.t.size≤1048576)(hc:Lies w.heap.size w a l):
  Calls Tryz.prog 9 #[.slice a l.length cap] w fun e w'=>e= .returned (.bool (exprOk l))∧Below w.heap.size w w':=by
 have HT:=hid (spec_tree l a cap w hn hk hs hc)
 have HC:=hid hc
 clear hk hs
 cases htr:treeOk l
 ·have HE:=hid (show exprOk l=false by unfold exprOk;rw[htr];rfl)
  go_enter Tryz.func9,Tryz.ntmps9
  go_wp2_with fail
  refine HT.mono ?_
  rw[htr]
  rintro e w1 ⟨rfl,b1⟩
  go_wp2
  go_ret
  exact⟨by rw[HE.out];rfl,b1⟩
 ·obtain⟨n,hln⟩:∃n,l.length=n+1:=⟨l.length-1,by
   have:nd.shape l=true:=by unfold treeOk at htr;simp only[Bool.and_eq_true]at htr;exact htr.1.1
   have:=(shape_yes this).1
   omega⟩
  have hlt:n<l.length:=by omega
  obtain⟨b,o,rfl,hb,hcell⟩:=nd.lies_at HC.out hlt
  obtain⟨_,_,⟨e0,-⟩,-⟩:=hcell n hlt
  obtain⟨q,hq⟩:∃q,q=l[n].k:=⟨_,rfl⟩
  have hL:lastK l=q:=by
   unfold lastK
   rw[hln,Nat.add_sub_cancel,List.getD_eq_getElem?_getD,List.getElem?_eq_getElem hlt,hq]
   rfl
  have HE:=hid (show exprOk l=isExpr q by unfold exprOk;rw[htr,hL];rfl)
  rw[←hq]at e0
  rw[hln]at HT⊢
  have j:n+1≤1048576:=by omega
  have h0:(0:Int)≤(n:Int):=by omega
  have h1:(n:Int)<(n:Int)+1:=by omega
  clear hcell hq hL hln hlt hn
  go_enter Tryz.func9,Tryz.ntmps9
  go_wp2_with fail
  refine HT.mono ?_
  rw[htr]
  rintro e w1 ⟨rfl,b1⟩
  have e1:=(b1.cell (p:=⟨b,o+n*5,none⟩) hb).trans e0
  clear e0 HT
  go_wp2_with (go_at_call 29;refine(spec_isExpr _ _).mono ?_;rintro e w' ⟨rfl,rfl⟩)
  go_ret
  exact⟨by rw[HE.out];rfl,b1⟩
set_option maxHeartbeats 1600000 in
theorem impl_expr(l:List Nd)(a:Option Addr)(cap:Nat)(w:World)(hn:l.length≤1048576)(hk:∀t∈l,t.kids.length≤1048576)(hs:∀t∈l,t.s.size≤1048576∧t.t.size≤1048576)(hc:Lies w.heap.size w a l)(hh:Held w):
  Calls Tryz.prog 24 #[.slice a l.length cap] w fun e w'=>e= .returned (.bool (exprOk l))∧Below w.heap.size w w':=by
 have HT:=hid (impl_tree l a cap w hn hk hs hc hh)
 have HC:=hid hc
 clear hk hs
 cases htr:treeOk l
 ·have HE:=hid (show exprOk l=false by unfold exprOk;rw[htr];rfl)
  go_enter Tryz.func24,Tryz.ntmps24
  go_wp2_with fail
  refine HT.mono ?_
  rw[htr]
  rintro e w1 ⟨rfl,b1⟩
  go_wp2
  go_ret
  exact⟨by rw[HE.out];rfl,b1⟩
 ·obtain⟨n,hln⟩:∃n,l.length=n+1:=⟨l.length-1,by
   have:nd.shape l=true:=by unfold treeOk at htr;simp only[Bool.and_eq_true]at htr;exact htr.1.1
   have:=(shape_yes this).1
   omega⟩
  have hlt:n<l.length:=by omega
  obtain⟨b,o,rfl,hb,hcell⟩:=nd.lies_at HC.out hlt
  obtain⟨_,_,⟨e0,-⟩,-⟩:=hcell n hlt
  obtain⟨q,hq⟩:∃q,q=l[n].k:=⟨_,rfl⟩
  have hL:lastK l=q:=by
   unfold lastK
   rw[hln,Nat.add_sub_cancel,List.getD_eq_getElem?_getD,List.getElem?_eq_getElem hlt,hq]
   rfl
  have HE:=hid (show exprOk l=isExpr q by unfold exprOk;rw[htr,hL];rfl)
  rw[←hq]at e0
  rw[hln]at HT⊢
  have j:n+1≤1048576:=by omega
  have h0:(0:Int)≤(n:Int):=by omega
  have h1:(n:Int)<(n:Int)+1:=by omega
  clear hcell hq hL hln hlt hn
  go_enter Tryz.func24,Tryz.ntmps24
  go_wp2_with fail
  refine HT.mono ?_
  rw[htr]
  rintro e w1 ⟨rfl,b1⟩
  have e1:=(b1.cell (p:=⟨b,o+n*5,none⟩) hb).trans e0
  clear e0 HT
  go_wp2_with (go_at_call 51;refine(impl_isExpr _ _).mono ?_;rintro e w' ⟨rfl,rfl⟩)
  go_ret
  exact⟨by rw[HE.out];rfl,b1⟩
end Go.Proofs.YtnoagleifffkcaaGreatDoor.rt
