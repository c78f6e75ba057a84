/- A part. -/
import Derived.Test.YtebjmdpkobhcbaaGreatDoorRGPb
import Derived.Test.YtebjmdpkobhcbaaGreatDoorROperand
import Derived.Test.YtebjmdpkobhcbaaGreatDoorRLevel
namespace Go.Proofs.YtebjmdpkobhcbaaGreatDoor.pr
open Lib (hid)
open Go.ChangeShapes Go.WideShapes Go.ChangeAt Go.RowKit
open tk (Tk)
open nd (Nd PT KidV IBlk OwnI shN makeT)
open ps (Ps B5 posOk kidI top)
open pe
set_option linter.unusedVariables false
set_option linter.unusedSimpArgs false
set_option maxRecDepth 20000
theorem impl_isAsg(c:Int)(w:World):Calls Tryz.prog 37 #[.int .i64 c] w fun e w'=>e= .returned (.bool (isAsg c))/\w=w':=by
 go_enter Tryz.func37,Tryz.ntmps37
 by_cases h1:c=54
 ·subst h1
  go_wp2
  go_ret
  exact⟨rfl,rfl⟩
 ·obtain⟨q1,q2⟩:=ne_facts h1
  have HE:=hid (show isAsg c=(decide (38<=c)&&decide (c<=43)) by unfold isAsg;rw[q1];rfl)
  by_cases h2:38<=c
  ·by_cases h3:c<=43
   ·have o:=hid (show isAsg c=true by rw[HE.out];simp[h2,h3])
    go_wp2
    go_ret
    exact⟨by rw[o.out];simp[h2,h3],rfl⟩
   ·have o:=hid (show isAsg c=false by rw[HE.out];simp[h3])
    go_wp2
    go_ret
    exact⟨by rw[o.out];simp[h2,h3],rfl⟩
  ·have o:=hid (show isAsg c=false by rw[HE.out];simp[h2])
   go_wp2
   go_ret
   exact⟨by rw[o.out];rfl,rfl⟩
theorem impl_isInc(c:Int)(w:World):Calls Tryz.prog 38 #[.int .i64 c] w fun e w'=>e= .returned (.bool (isInc c))/\w=w':=by
 go_enter Tryz.func38,Tryz.ntmps38
 by_cases h1:c=51
 ·subst h1
  go_wp2
  go_ret
  exact⟨rfl,rfl⟩
 ·obtain⟨q1,q2⟩:=ne_facts h1
  have HE:=hid (show isInc c=(c==52) by unfold isInc;rw[q1];rfl)
  go_wp2
  go_ret
  exact⟨by rw[HE.out];rfl,rfl⟩
def rdB(x:Value)(c:Int):Value:=
 if c=3\/c=4\/c=5 then .func (.func 234) #[x] #[]
 else if c=6 then .func (.func 235) #[x] #[]
 else if c=7 then .func (.func 236) #[x] #[]
 else if c=8 then .func (.func 237) #[x] #[]
 else if c=68\/c=55\/c=56\/c=61 then .func (.func 238) #[x] #[]
 else if c=51\/c=52 then .func (.func 239) #[x] #[]
 else .nilFunc
def knB(c:Int):Nat:=if c=68\/c=51\/c=52\/c=55\/c=56\/c=61 then 1 else 0
def rdC(x:Value)(c:Int):Value:=
 if isAsg c=true then .func (.func 157) #[x] #[]
 else if isInc c=true then .func (.func 158) #[x] #[]
 else if c=65 then .func (.func 159) #[x] #[]
 else if c=24 then .func (.func 160) #[x] #[]
 else if operand.begins c=true then .func (.func 162) #[x] #[]
 else if lv.opLevel c≠0 then .func (.func 157) #[x] #[]
 else .nilFunc
def knC(c:Int):Nat:=if ctK c=0 then 0 else ctN c
def NewRow(m:Nat)(u:Value)(w w':World):Prop:=(m=0/\u= .slice none 0 0)\/0<m/\∃q,w.heap.size<q/\u= .slice (some ⟨q,0,none⟩) m m/\IBlk w' q m (zs m)
theorem NewRow.keep{m:Nat}{u:Value}{w w' w2:World}(h:NewRow m u w w')(hb:Below w'.heap.size w' w2):NewRow m u w w2:=by
 rcases h with h|⟨hm,q,h0,h1,h2⟩
 ·exact .inl h
 ·exact .inr ⟨hm,q,h0,h1,h2.of_block (hb.block _ h2.lt)⟩
def Begun(K O:Int)(m:Nat)(F:Value)(w:World)(e:Ending)(w':World):Prop:=
 ∃u,e= .returned (.tuple #[.agg #[.int .i64 K,.int .i64 O,.string ⟨#[]⟩,.string ⟨#[]⟩,u],F])/\Below w.heap.size w w'/\NewRow m u w w'
theorem begun_leaf(w:World)(c:Array Value):Bk w.heap.size c 33 (w.alloc (.cells c 33))/\Below w.heap.size w (w.alloc (.cells c 33)):=⟨Bk.new w _ _,(Below.refl _ _).alloc (Nat.le_refl _) _⟩
theorem begun_row(m:Nat)(w:World)(c:Array Value):Bk w.heap.size c 33 ((w.alloc (.cells c 33)).alloc (.cells (madeCells #[.int .i64 0] m) 3))/\Below w.heap.size w ((w.alloc (.cells c 33)).alloc (.cells (madeCells #[.int .i64 0] m) 3))/\IBlk ((w.alloc (.cells c 33)).alloc (.cells (madeCells #[.int .i64 0] m) 3)) (w.heap.size+1) m (zs m):=by
 refine⟨(Bk.new w _ _).alloc _,((Below.refl _ _).alloc (Nat.le_refl _) _).alloc (by simp) _, ?_⟩
 have h:=IBlk.zeros (w.alloc (.cells c 33)) m
 rwa [show(w.alloc (.cells c 33)).heap.size=w.heap.size+1 by simp]at h
section
variable {w0:World} {l:List Tk} {a:Option Addr} {cap i:Nat} {v:Value} {z:List (Nd×Value)} {r:Nat->Nat} {E:Ps->Nat->R} {M i0:Nat}
set_option maxHeartbeats 3200000 in
theorem begun_l{c K O:Int}{F:FuncId}(h:c=3/\K=2/\O=0/\F=234\/c=4/\K=3/\O=0/\F=234\/c=5/\K=4/\O=0/\F=234\/c=6/\K=1/\O=0/\F=235\/c=7/\K=7/\O=0/\F=236\/c=8/\K=8/\O=0/\F=237)(x:Value)(w:World):Calls Tryz.prog 156 #[x,.int .i64 c] w (Begun K O 0 (.func (.func F) #[x] #[]) w):=by
 have hmf:∀(fn:Fn) (first cap:Array Value) (w:World),(Instr.makeFunc fn first cap).run Tryz.prog w= .ok (.func fn first cap) w:=fun _ _ _ _=>rfl
 rcases h with ⟨rfl,rfl,rfl,rfl⟩|⟨rfl,rfl,rfl,rfl⟩|⟨rfl,rfl,rfl,rfl⟩|⟨rfl,rfl,rfl,rfl⟩|⟨rfl,rfl,rfl,rfl⟩|⟨rfl,rfl,rfl,rfl⟩
 all_goals
  obtain⟨hb,hbel⟩:=begun_leaf w (#[.int .i64 _,.int .i64 _,.string ⟨#[]⟩,.string ⟨#[]⟩,.slice none 0 0]:Array Value)
  go_enter Tryz.func156,Tryz.ntmps156
  go_wp2
  have tt:=hb.c5
  obtain⟨t0,t1,t2,t3,t4⟩:=tt
  refine bodyPost_ret (v:= .tuple #[.agg #[_,_,.string ⟨#[]⟩,.string ⟨#[]⟩,.slice none 0 0],.func (.func _) #[x] #[]]) (by simp[results,Tryz.results156,go_sem,t0,t1,t2,t3,t4]) rfl ⟨.slice none 0 0,rfl,hbel,.inl ⟨rfl,rfl⟩⟩
set_option maxHeartbeats 3200000 in
theorem begun_r{c K O:Int}{F:FuncId}(h:c=68/\K=6/\O=0/\F=238\/c=51/\K=9/\O=51/\F=239\/c=52/\K=9/\O=52/\F=239\/c=55/\K=11/\O=55/\F=238\/c=56/\K=11/\O=56/\F=238\/c=61/\K=11/\O=61/\F=238)(x:Value)(w:World):Calls Tryz.prog 156 #[x,.int .i64 c] w (Begun K O 1 (.func (.func F) #[x] #[]) w):=by
 have hmf:∀(fn:Fn) (first cap:Array Value) (w:World),(Instr.makeFunc fn first cap).run Tryz.prog w= .ok (.func fn first cap) w:=fun _ _ _ _=>rfl
 have hmk:∀w:World,(Instr.makeSlice 31 (.int .i64 1) (.int .i64 1)).run Tryz.prog w= .ok (.slice (some ⟨w.heap.size,0,none⟩) 1 1) (w.alloc (.cells (madeCells #[.int .i64 0] 1) 3)):=fun w=>nd.make_ints 1 (by omega) w
 rcases h with ⟨rfl,rfl,rfl,rfl⟩|⟨rfl,rfl,rfl,rfl⟩|⟨rfl,rfl,rfl,rfl⟩|⟨rfl,rfl,rfl,rfl⟩|⟨rfl,rfl,rfl,rfl⟩|⟨rfl,rfl,rfl,rfl⟩
 all_goals
  obtain⟨hb,hbel,hrow⟩:=begun_row 1 w (#[.int .i64 _,.int .i64 _,.string ⟨#[]⟩,.string ⟨#[]⟩,.slice (some ⟨w.heap.size+1,0,none⟩) 1 1]:Array Value)
  go_enter Tryz.func156,Tryz.ntmps156
  go_wp2
  have tt:=hb.c5
  obtain⟨t0,t1,t2,t3,t4⟩:=tt
  refine bodyPost_ret (v:= .tuple #[.agg #[_,_,.string ⟨#[]⟩,.string ⟨#[]⟩,.slice (some ⟨w.heap.size+1,0,none⟩) 1 1],.func (.func _) #[x] #[]]) (by simp[results,Tryz.results156,go_sem,t0,t1,t2,t3,t4]) rfl ⟨.slice (some ⟨w.heap.size+1,0,none⟩) 1 1,rfl,hbel,.inr ⟨by decide,w.heap.size+1,Nat.lt_succ_self _,rfl,hrow⟩⟩
set_option maxHeartbeats 1600000 in
theorem begun_none(x:Value)(c:Int)(h:bgK c=0)(w:World):Calls Tryz.prog 156 #[x,.int .i64 c] w (Begun 0 0 0 .nilFunc w):=by
 obtain⟨hb,hbel⟩:=begun_leaf w #[.int .i64 0,.int .i64 0,.string ⟨#[]⟩,.string ⟨#[]⟩,.slice none 0 0]
 have hn:∀y:Int,bgK y≠0->¬c=y:=fun y hy e=>hy (e▸h)
 obtain⟨a3,b3⟩:=ne_facts (hn 3 (by decide))
 obtain⟨a4,b4⟩:=ne_facts (hn 4 (by decide))
 obtain⟨a5,b5⟩:=ne_facts (hn 5 (by decide))
 obtain⟨a6,b6⟩:=ne_facts (hn 6 (by decide))
 obtain⟨a7,b7⟩:=ne_facts (hn 7 (by decide))
 obtain⟨a8,b8⟩:=ne_facts (hn 8 (by decide))
 obtain⟨J,D⟩:=ne_facts (hn 68 (by decide))
 obtain⟨O,F⟩:=ne_facts (hn 51 (by decide))
 obtain⟨K,H⟩:=ne_facts (hn 52 (by decide))
 obtain⟨P,N⟩:=ne_facts (hn 55 (by decide))
 obtain⟨A,o⟩:=ne_facts (hn 56 (by decide))
 obtain⟨G,C⟩:=ne_facts (hn 61 (by decide))
 clear hn h
 go_enter Tryz.func156,Tryz.ntmps156
 go_wp2
 obtain⟨t0,t1,t2,t3,t4⟩:=hb.c5
 exact bodyPost_ret (v:= .tuple #[.agg #[.int .i64 0,.int .i64 0,.string ⟨#[]⟩,.string ⟨#[]⟩,.slice none 0 0],.nilFunc]) (by simp[results,Tryz.results156,go_sem,t0,t1,t2,t3,t4]) rfl ⟨.slice none 0 0,rfl,hbel,.inl ⟨rfl,rfl⟩⟩
set_option maxHeartbeats 1600000 in
theorem cont_asg(x:Value)(c:Int)(h:isAsg c=true)(w:World):Calls Tryz.prog 99 #[x,.int .i64 c] w (Begun 15 c 2 (.func (.func 157) #[x] #[]) w):=by
 have hmf:∀(fn:Fn) (first cap:Array Value) (w:World),(Instr.makeFunc fn first cap).run Tryz.prog w= .ok (.func fn first cap) w:=fun _ _ _ _=>rfl
 have hmk:∀w:World,(Instr.makeSlice 31 (.int .i64 2) (.int .i64 2)).run Tryz.prog w= .ok (.slice (some ⟨w.heap.size,0,none⟩) 2 2) (w.alloc (.cells (madeCells #[.int .i64 0] 2) 3)):=fun w=>nd.make_ints 2 (by omega) w
 obtain⟨hb,hbel,hrow⟩:=begun_row 2 w #[.int .i64 15,.int .i64 c,.string ⟨#[]⟩,.string ⟨#[]⟩,.slice (some ⟨w.heap.size+1,0,none⟩) 2 2]
 have HA:=hid h
 have HI:=hid h
 have HB:=hid h
 have HO:=hid h
 go_enter Tryz.func99,Tryz.ntmps99
 go_wp2_with (first|(go_at_call 37;refine(impl_isAsg _ _).mono ?_;rw[HA.out];rintro e w2 ⟨rfl,rfl⟩)|(go_at_call 38;refine(impl_isInc _ _).mono ?_;rw[HI.out];rintro e w2 ⟨rfl,rfl⟩)|(go_at_call 161;refine(operand.impl_begins _ _).mono ?_;rw[HB.out];rintro e w2 ⟨rfl,rfl⟩)|(go_at_call 12;refine(lv.impl_op _ _).mono ?_;rw[HO.out];rintro e w2 ⟨rfl,b2⟩;have o:=hid b2;have y:w2.heap.size=w2.heap.size:=rfl))
 obtain⟨t0,t1,t2,t3,t4⟩:=hb.c5
 exact bodyPost_ret (v:= .tuple #[.agg #[.int .i64 15,.int .i64 c,.string ⟨#[]⟩,.string ⟨#[]⟩,.slice (some ⟨w.heap.size+1,0,none⟩) 2 2],.func (.func 157) #[x] #[]]) (by simp[results,Tryz.results99,go_sem,t0,t1,t2,t3,t4]) rfl ⟨.slice (some ⟨w.heap.size+1,0,none⟩) 2 2,rfl,hbel,.inr ⟨by decide,w.heap.size+1,Nat.lt_succ_self _,rfl,hrow⟩⟩
set_option maxHeartbeats 1600000 in
theorem cont_inc(x:Value)(c:Int)(hA:isAsg c=false)(h:isInc c=true)(w:World):Calls Tryz.prog 99 #[x,.int .i64 c] w (Begun 10 c 1 (.func (.func 158) #[x] #[]) w):=by
 have hmf:∀(fn:Fn) (first cap:Array Value) (w:World),(Instr.makeFunc fn first cap).run Tryz.prog w= .ok (.func fn first cap) w:=fun _ _ _ _=>rfl
 have hmk:∀w:World,(Instr.makeSlice 31 (.int .i64 1) (.int .i64 1)).run Tryz.prog w= .ok (.slice (some ⟨w.heap.size,0,none⟩) 1 1) (w.alloc (.cells (madeCells #[.int .i64 0] 1) 3)):=fun w=>nd.make_ints 1 (by omega) w
 obtain⟨hb,hbel,hrow⟩:=begun_row 1 w #[.int .i64 10,.int .i64 c,.string ⟨#[]⟩,.string ⟨#[]⟩,.slice (some ⟨w.heap.size+1,0,none⟩) 1 1]
 have HA:=hid hA
 have HI:=hid h
 have HB:=hid h
 have HO:=hid h
 go_enter Tryz.func99,Tryz.ntmps99
 go_wp2_with (first|(go_at_call 37;refine(impl_isAsg _ _).mono ?_;rw[HA.out];rintro e w2 ⟨rfl,rfl⟩)|(go_at_call 38;refine(impl_isInc _ _).mono ?_;rw[HI.out];rintro e w2 ⟨rfl,rfl⟩)|(go_at_call 161;refine(operand.impl_begins _ _).mono ?_;rw[HB.out];rintro e w2 ⟨rfl,rfl⟩)|(go_at_call 12;refine(lv.impl_op _ _).mono ?_;rw[HO.out];rintro e w2 ⟨rfl,b2⟩;have o:=hid b2;have y:w2.heap.size=w2.heap.size:=rfl))
 obtain⟨t0,t1,t2,t3,t4⟩:=hb.c5
 exact bodyPost_ret (v:= .tuple #[.agg #[.int .i64 10,.int .i64 c,.string ⟨#[]⟩,.string ⟨#[]⟩,.slice (some ⟨w.heap.size+1,0,none⟩) 1 1],.func (.func 158) #[x] #[]]) (by simp[results,Tryz.results99,go_sem,t0,t1,t2,t3,t4]) rfl ⟨.slice (some ⟨w.heap.size+1,0,none⟩) 1 1,rfl,hbel,.inr ⟨by decide,w.heap.size+1,Nat.lt_succ_self _,rfl,hrow⟩⟩
set_option maxHeartbeats 1600000 in
theorem cont_quest(x:Value)(c:Int)(h:c=65)(w:World):Calls Tryz.prog 99 #[x,.int .i64 c] w (Begun 14 0 3 (.func (.func 159) #[x] #[]) w):=by
 have hmf:∀(fn:Fn) (first cap:Array Value) (w:World),(Instr.makeFunc fn first cap).run Tryz.prog w= .ok (.func fn first cap) w:=fun _ _ _ _=>rfl
 have hmk:∀w:World,(Instr.makeSlice 31 (.int .i64 3) (.int .i64 3)).run Tryz.prog w= .ok (.slice (some ⟨w.heap.size,0,none⟩) 3 3) (w.alloc (.cells (madeCells #[.int .i64 0] 3) 3)):=fun w=>nd.make_ints 3 (by omega) w
 obtain⟨hb,hbel,hrow⟩:=begun_row 3 w #[.int .i64 14,.int .i64 0,.string ⟨#[]⟩,.string ⟨#[]⟩,.slice (some ⟨w.heap.size+1,0,none⟩) 3 3]
 subst h
 have HA:=hid (show isAsg 65=false from rfl)
 have HI:=hid (show isInc 65=false from rfl)
 have HB:=hid (show isInc 65=false from rfl)
 have HO:=hid (show isInc 65=false from rfl)
 go_enter Tryz.func99,Tryz.ntmps99
 go_wp2_with (first|(go_at_call 37;refine(impl_isAsg _ _).mono ?_;rw[HA.out];rintro e w2 ⟨rfl,rfl⟩)|(go_at_call 38;refine(impl_isInc _ _).mono ?_;rw[HI.out];rintro e w2 ⟨rfl,rfl⟩)|(go_at_call 161;refine(operand.impl_begins _ _).mono ?_;rw[HB.out];rintro e w2 ⟨rfl,rfl⟩)|(go_at_call 12;refine(lv.impl_op _ _).mono ?_;rw[HO.out];rintro e w2 ⟨rfl,b2⟩;have o:=hid b2;have y:w2.heap.size=w2.heap.size:=rfl))
 obtain⟨t0,t1,t2,t3,t4⟩:=hb.c5
 exact bodyPost_ret (v:= .tuple #[.agg #[.int .i64 14,.int .i64 0,.string ⟨#[]⟩,.string ⟨#[]⟩,.slice (some ⟨w.heap.size+1,0,none⟩) 3 3],.func (.func 159) #[x] #[]]) (by simp[results,Tryz.results99,go_sem,t0,t1,t2,t3,t4]) rfl ⟨.slice (some ⟨w.heap.size+1,0,none⟩) 3 3,rfl,hbel,.inr ⟨by decide,w.heap.size+1,Nat.lt_succ_self _,rfl,hrow⟩⟩
set_option maxHeartbeats 1600000 in
theorem cont_in(x:Value)(c:Int)(h:c=24)(w:World):Calls Tryz.prog 99 #[x,.int .i64 c] w (Begun 13 0 1 (.func (.func 160) #[x] #[]) w):=by
 have hmf:∀(fn:Fn) (first cap:Array Value) (w:World),(Instr.makeFunc fn first cap).run Tryz.prog w= .ok (.func fn first cap) w:=fun _ _ _ _=>rfl
 have hmk:∀w:World,(Instr.makeSlice 31 (.int .i64 1) (.int .i64 1)).run Tryz.prog w= .ok (.slice (some ⟨w.heap.size,0,none⟩) 1 1) (w.alloc (.cells (madeCells #[.int .i64 0] 1) 3)):=fun w=>nd.make_ints 1 (by omega) w
 obtain⟨hb,hbel,hrow⟩:=begun_row 1 w #[.int .i64 13,.int .i64 0,.string ⟨#[]⟩,.string ⟨#[]⟩,.slice (some ⟨w.heap.size+1,0,none⟩) 1 1]
 subst h
 have HA:=hid (show isAsg 24=false from rfl)
 have HI:=hid (show isInc 24=false from rfl)
 have HB:=hid (show isInc 65=false from rfl)
 have HO:=hid (show isInc 65=false from rfl)
 go_enter Tryz.func99,Tryz.ntmps99
 go_wp2_with (first|(go_at_call 37;refine(impl_isAsg _ _).mono ?_;rw[HA.out];rintro e w2 ⟨rfl,rfl⟩)|(go_at_call 38;refine(impl_isInc _ _).mono ?_;rw[HI.out];rintro e w2 ⟨rfl,rfl⟩)|(go_at_call 161;refine(operand.impl_begins _ _).mono ?_;rw[HB.out];rintro e w2 ⟨rfl,rfl⟩)|(go_at_call 12;refine(lv.impl_op _ _).mono ?_;rw[HO.out];rintro e w2 ⟨rfl,b2⟩;have o:=hid b2;have y:w2.heap.size=w2.heap.size:=rfl))
 obtain⟨t0,t1,t2,t3,t4⟩:=hb.c5
 exact bodyPost_ret (v:= .tuple #[.agg #[.int .i64 13,.int .i64 0,.string ⟨#[]⟩,.string ⟨#[]⟩,.slice (some ⟨w.heap.size+1,0,none⟩) 1 1],.func (.func 160) #[x] #[]]) (by simp[results,Tryz.results99,go_sem,t0,t1,t2,t3,t4]) rfl ⟨.slice (some ⟨w.heap.size+1,0,none⟩) 1 1,rfl,hbel,.inr ⟨by decide,w.heap.size+1,Nat.lt_succ_self _,rfl,hrow⟩⟩
set_option maxHeartbeats 1600000 in
theorem cont_cat(x:Value)(c:Int)(hA:isAsg c=false)(hI:isInc c=false)(h65:¬c=65)(h24:¬c=24)(h:operand.begins c=true)(w:World):Calls Tryz.prog 99 #[x,.int .i64 c] w (Begun 12 99 2 (.func (.func 162) #[x] #[]) w):=by
 have hmf:∀(fn:Fn) (first cap:Array Value) (w:World),(Instr.makeFunc fn first cap).run Tryz.prog w= .ok (.func fn first cap) w:=fun _ _ _ _=>rfl
 have hmk:∀w:World,(Instr.makeSlice 31 (.int .i64 2) (.int .i64 2)).run Tryz.prog w= .ok (.slice (some ⟨w.heap.size,0,none⟩) 2 2) (w.alloc (.cells (madeCells #[.int .i64 0] 2) 3)):=fun w=>nd.make_ints 2 (by omega) w
 obtain⟨hb,hbel,hrow⟩:=begun_row 2 w #[.int .i64 12,.int .i64 99,.string ⟨#[]⟩,.string ⟨#[]⟩,.slice (some ⟨w.heap.size+1,0,none⟩) 2 2]
 have HA:=hid hA
 have HI:=hid hI
 have HB:=hid h
 have HO:=hid h
 obtain⟨C,D⟩:=ne_facts (show¬c=65 from h65)
 obtain⟨A,y⟩:=ne_facts (show¬c=24 from h24)
 go_enter Tryz.func99,Tryz.ntmps99
 go_wp2_with (first|(go_at_call 37;refine(impl_isAsg _ _).mono ?_;rw[HA.out];rintro e w2 ⟨rfl,rfl⟩)|(go_at_call 38;refine(impl_isInc _ _).mono ?_;rw[HI.out];rintro e w2 ⟨rfl,rfl⟩)|(go_at_call 161;refine(operand.impl_begins _ _).mono ?_;rw[HB.out];rintro e w2 ⟨rfl,rfl⟩)|(go_at_call 12;refine(lv.impl_op _ _).mono ?_;rw[HO.out];rintro e w2 ⟨rfl,b2⟩;have F:=hid b2;have o:w2.heap.size=w2.heap.size:=rfl))
 obtain⟨t0,t1,t2,t3,t4⟩:=hb.c5
 exact bodyPost_ret (v:= .tuple #[.agg #[.int .i64 12,.int .i64 99,.string ⟨#[]⟩,.string ⟨#[]⟩,.slice (some ⟨w.heap.size+1,0,none⟩) 2 2],.func (.func 162) #[x] #[]]) (by simp[results,Tryz.results99,go_sem,t0,t1,t2,t3,t4]) rfl ⟨.slice (some ⟨w.heap.size+1,0,none⟩) 2 2,rfl,hbel,.inr ⟨by decide,w.heap.size+1,Nat.lt_succ_self _,rfl,hrow⟩⟩
set_option maxHeartbeats 1600000 in
theorem cont_op(x:Value)(c:Int)(hA:isAsg c=false)(hI:isInc c=false)(h65:¬c=65)(h24:¬c=24)(hBB:operand.begins c=false)(h:lv.opLevel c≠0)(w:World):Calls Tryz.prog 99 #[x,.int .i64 c] w (Begun 12 c 2 (.func (.func 157) #[x] #[]) w):=by
 have hmf:∀(fn:Fn) (first cap:Array Value) (w:World),(Instr.makeFunc fn first cap).run Tryz.prog w= .ok (.func fn first cap) w:=fun _ _ _ _=>rfl
 have hmk:∀w:World,(Instr.makeSlice 31 (.int .i64 2) (.int .i64 2)).run Tryz.prog w= .ok (.slice (some ⟨w.heap.size,0,none⟩) 2 2) (w.alloc (.cells (madeCells #[.int .i64 0] 2) 3)):=fun w=>nd.make_ints 2 (by omega) w
 obtain⟨V,hV⟩:∃V,lv.opLevel c=V:=⟨_,rfl⟩
 have HV:=hV
 rw[hV]at h
 obtain⟨v1,v2⟩:=ne_facts h
 obtain⟨hb,hbel⟩:=begun_leaf w #[.int .i64 0,.int .i64 0,.string ⟨#[]⟩,.string ⟨#[]⟩,.slice none 0 0]
 have HN:=hid hb
 have HBEL:=hid hbel
 have HA:=hid hA
 have HI:=hid hI
 have HB:=hid hBB
 obtain⟨C,D⟩:=ne_facts (show¬c=65 from h65)
 obtain⟨A,y⟩:=ne_facts (show¬c=24 from h24)
 have hcp:∀(w2:World),w.heap.size<w2.heap.size->∀z,¬w.heap.size=w2.heap.size:=fun w2 h z=>by omega
 clear hb hbel hA hI hBB h h65 h24 hV hcp
 go_enter Tryz.func99,Tryz.ntmps99
 go_wp2_with (first|(go_at_call 37;refine(impl_isAsg _ _).mono ?_;rw[HA.out];rintro e w1 ⟨rfl,rfl⟩)|(go_at_call 38;refine(impl_isInc _ _).mono ?_;rw[HI.out];rintro e w1 ⟨rfl,rfl⟩)|(go_at_call 161;refine(operand.impl_begins _ _).mono ?_;rw[HB.out];rintro e w1 ⟨rfl,rfl⟩)|(go_at_call 12;refine(lv.impl_op _ _).mono ?_;rw[HV];rintro e w2 ⟨rfl,b2⟩;have N2:=hid (HN.keep b2);have B2:=hid (HBEL.trans (b2.mono HBEL.size));have f0:=N2.f 0;have f1:=N2.f 1;have f2:=N2.f 2;have f3:=N2.f 3;have f4:=N2.f 4;obtain⟨d0,d1,d2,d3,d4⟩:=N2.c5;have A0:∀z,(w2.alloc z).cell? ⟨w.heap.size,0,none⟩=some (.int .i64 0):=fun z=>nd.cell_past z d0;have A1:∀z,(w2.alloc z).cell? ⟨w.heap.size,1,none⟩=some (.int .i64 0):=fun z=>nd.cell_past z d1;have A2:∀z,(w2.alloc z).cell? ⟨w.heap.size,2,none⟩=some (.string ⟨#[]⟩):=fun z=>nd.cell_past z d2;have A3:∀z,(w2.alloc z).cell? ⟨w.heap.size,3,none⟩=some (.string ⟨#[]⟩):=fun z=>nd.cell_past z d3;have A4:∀z,(w2.alloc z).cell? ⟨w.heap.size,4,none⟩=some (.slice none 0 0):=fun z=>nd.cell_past z d4;have G0:=((N2.alloc (.cells (madeCells #[.int .i64 0] 2) 3)).f 0);have G1:=((N2.alloc (.cells (madeCells #[.int .i64 0] 2) 3)).f 1);have o:=((N2.alloc (.cells (madeCells #[.int .i64 0] 2) 3)).f 2);have G3:=((N2.alloc (.cells (madeCells #[.int .i64 0] 2) 3)).f 3);have G4:=((N2.alloc (.cells (madeCells #[.int .i64 0] 2) 3)).f 4)))
 have hne:w2.heap.size≠w.heap.size:=by have:=N2.lt;omega
 have hF:Bk w.heap.size #[.int .i64 12,.int .i64 c,.string ⟨#[]⟩,.string ⟨#[]⟩,.slice (some ⟨w2.heap.size,0,none⟩) 2 2] 33 _:=((N2.alloc (.cells (madeCells #[.int .i64 0] 2) 3)).put5 (.int .i64 12) (.int .i64 c) (.string ⟨#[]⟩) (.string ⟨#[]⟩) (.slice (some ⟨w2.heap.size,0,none⟩) 2 2))
 obtain⟨t0,t1,t2,t3,t4⟩:=hF.c5
 exact bodyPost_ret (v:= .tuple #[.agg #[.int .i64 12,.int .i64 c,.string ⟨#[]⟩,.string ⟨#[]⟩,.slice (some ⟨w2.heap.size,0,none⟩) 2 2],.func (.func 157) #[x] #[]]) (by simp[results,Tryz.results99,go_sem,t0,t1,t2,t3,t4]) rfl ⟨.slice (some ⟨w2.heap.size,0,none⟩) 2 2,rfl,below_put5 (B2.alloc B2.size _) (Nat.le_refl _) _ _ _ _ _,.inr ⟨by decide,w2.heap.size,N2.lt,rfl,by
  have h:=IBlk.zeros w2 2
  exact h.of_block (by rw[heap_setCell_other _ _ _ _ hne,heap_setCell_other _ _ _ _ hne,heap_setCell_other _ _ _ _ hne,heap_setCell_other _ _ _ _ hne,heap_setCell_other _ _ _ _ hne])⟩⟩
set_option maxHeartbeats 1600000 in
theorem cont_none(x:Value)(c:Int)(hA:isAsg c=false)(hI:isInc c=false)(h65:¬c=65)(h24:¬c=24)(hBB:operand.begins c=false)(HV:lv.opLevel c=0)(w:World):Calls Tryz.prog 99 #[x,.int .i64 c] w (Begun 0 0 0 .nilFunc w):=by
 obtain⟨hb,hbel⟩:=begun_leaf w #[.int .i64 0,.int .i64 0,.string ⟨#[]⟩,.string ⟨#[]⟩,.slice none 0 0]
 have HN:=hid hb
 have HBEL:=hid hbel
 have HA:=hid hA
 have HI:=hid hI
 have HB:=hid hBB
 obtain⟨y,C⟩:=ne_facts (show¬c=65 from h65)
 obtain⟨A,o⟩:=ne_facts (show¬c=24 from h24)
 clear hb hbel hA hI hBB h65 h24
 go_enter Tryz.func99,Tryz.ntmps99
 go_wp2_with (first|(go_at_call 37;refine(impl_isAsg _ _).mono ?_;rw[HA.out];rintro e w1 ⟨rfl,rfl⟩)|(go_at_call 38;refine(impl_isInc _ _).mono ?_;rw[HI.out];rintro e w1 ⟨rfl,rfl⟩)|(go_at_call 161;refine(operand.impl_begins _ _).mono ?_;rw[HB.out];rintro e w1 ⟨rfl,rfl⟩)|(go_at_call 12;refine(lv.impl_op _ _).mono ?_;rw[HV];rintro e w2 ⟨rfl,b2⟩;have N2:=hid (HN.keep b2);have B2:=hid (HBEL.trans (b2.mono HBEL.size));have f0:=N2.f 0;have f1:=N2.f 1;have f2:=N2.f 2;have f3:=N2.f 3;have f4:=N2.f 4;obtain⟨d0,d1,d2,d3,d4⟩:=N2.c5))
 have hF:Bk w.heap.size #[.int .i64 0,.int .i64 0,.string ⟨#[]⟩,.string ⟨#[]⟩,.slice none 0 0] 33 _:=(N2.put5 (.int .i64 0) (.int .i64 0) (.string ⟨#[]⟩) (.string ⟨#[]⟩) (.slice none 0 0))
 obtain⟨t0,t1,t2,t3,t4⟩:=hF.c5
 exact bodyPost_ret (v:= .tuple #[.agg #[.int .i64 0,.int .i64 0,.string ⟨#[]⟩,.string ⟨#[]⟩,.slice none 0 0],.nilFunc]) (by simp[results,Tryz.results99,go_sem,t0,t1,t2,t3,t4]) rfl ⟨.slice none 0 0,rfl,below_put5 B2.out (Nat.le_refl _) _ _ _ _ _,.inl ⟨rfl,rfl⟩⟩
theorem continued_any(x:Value)(c:Int)(w:World):Calls Tryz.prog 99 #[x,.int .i64 c] w (Begun (ctK c) (ctO c) (knC c) (rdC x c) w):=by
 unfold rdC knC
 cases hA:isAsg c with
 |true=>
  obtain⟨e1,e2,e3⟩:=asg_c hA
  rw[e1,e2,e3,if_pos rfl,if_neg (by decide)]
  exact cont_asg x c hA w
 |false=>
  rw[if_neg (show¬(false=true) by decide)]
  cases hI:isInc c with
  |true=>
   obtain⟨e1,e2,e3⟩:=inc_c hI
   rw[e1,e2,e3,if_pos rfl,if_neg (by decide)]
   exact cont_inc x c hA hI w
  |false=>
   rw[if_neg (show¬(false=true) by decide)]
   by_cases h65:c=65
   ·subst h65
    exact cont_quest x 65 rfl w
   rw[if_neg h65]
   by_cases h24:c=24
   ·subst h24
    exact cont_in x 24 rfl w
   rw[if_neg h24]
   cases hB:operand.begins c with
   |true=>
    obtain⟨e1,e2,e3,-⟩:=beg_c hB
    rw[e1,e2,e3,if_pos rfl,if_neg (by decide)]
    exact cont_cat x c hA hI h65 h24 hB w
   |false=>
    rw[if_neg (show¬(false=true) by decide)]
    by_cases hV:lv.opLevel c≠0
    ·obtain⟨e1,e2,e3⟩:=op_c hV
     rw[e1,e2,e3,if_pos hV,if_neg (by decide)]
     exact cont_op x c hA hI h65 h24 hB hV w
    ·have e1:ctK c=0:=by simp[ctK,hA,hI,h65,h24,hB,hV]
     have e2:ctO c=0:=by simp[ctO,hA,hI,h65,h24,hB,hV]
     rw[e1,e2,if_neg hV,if_pos rfl]
     exact cont_none x c hA hI h65 h24 hB (by simpa using hV) w
set_option maxHeartbeats 1600000 in
theorem mbf_any(lv0:Int)(tg:Bool)(c:Int)(ak:Option Addr)(nk ck:Nat)(p:Ps)(hn:nk=ctN c)(w:World):
  Calls Tryz.prog 102 #[.agg #[.int .i64 lv0,.bool tg],.agg #[.int .i64 (ctK c),.int .i64 (ctO c),.string ⟨#[]⟩,.string ⟨#[]⟩,.slice ak nk ck],.agg #[.int .i64 p.l,.bool p.d,.bool p.i,.bool p.g,.bool p.s]] w fun e w'=>e= .returned (.bool (may c lv0 tg p))/\Below w.heap.size w w':=by
 obtain⟨k,hk⟩:∃k,ctK c=k:=⟨_,rfl⟩
 obtain⟨op,hop⟩:∃op,ctO c=op:=⟨_,rfl⟩
 have HMAY:=hid (show may c lv0 tg p=if k=15\/k=10 then tg else decide ((kidI k op nk 0 p.l p.d p.i p.g p.s).l<=lv0) by unfold may kq;rw[hk,hop,hn])
 rw[hk,hop]
 have hnb:nk<=1048576:=by rw[hn];unfold ctN;(repeat' split)<;>decide
 obtain⟨W,hW⟩:∃W,W=((w.alloc (.cells #[.int .i64 lv0,.bool tg] 82)).alloc (.cells #[.int .i64 k,.int .i64 op,.string ⟨#[]⟩,.string ⟨#[]⟩,.slice ak nk ck] 33)).alloc (.cells #[.int .i64 p.l,.bool p.d,.bool p.i,.bool p.g,.bool p.s] 44):=⟨_,rfl⟩
 have hB:Below w.heap.size w W:=by rw[hW];exact(((Below.refl _ _).alloc (Nat.le_refl _) _).alloc (by simp) _).alloc (by simp;omega) _
 have hO:Bk w.heap.size #[.int .i64 lv0,.bool tg] 82 W:=by rw[hW];exact((Bk.new _ _ _).alloc _).alloc _
 have hN:Bk (w.heap.size+1) #[.int .i64 k,.int .i64 op,.string ⟨#[]⟩,.string ⟨#[]⟩,.slice ak nk ck] 33 W:=by
  rw[hW]
  have:=(Bk.new (w.alloc (.cells #[.int .i64 lv0,.bool tg] 82)) #[.int .i64 k,.int .i64 op,.string ⟨#[]⟩,.string ⟨#[]⟩,.slice ak nk ck] 33).alloc (.cells #[.int .i64 p.l,.bool p.d,.bool p.i,.bool p.g,.bool p.s] 44)
  simpa using this
 have hP:Bk (w.heap.size+1+1) #[.int .i64 p.l,.bool p.d,.bool p.i,.bool p.g,.bool p.s] 44 W:=by
  rw[hW]
  have:=Bk.new ((w.alloc (.cells #[.int .i64 lv0,.bool tg] 82)).alloc (.cells #[.int .i64 k,.int .i64 op,.string ⟨#[]⟩,.string ⟨#[]⟩,.slice ak nk ck] 33)) #[.int .i64 p.l,.bool p.d,.bool p.i,.bool p.g,.bool p.s] 44
  simpa using this
 obtain⟨o0,o1⟩:=hO.c2
 obtain⟨n0,n1,n2,n3,n4⟩:=hN.c5
 obtain⟨p0,p1,p2,p3,p4⟩:=hP.c5
 have HB:=hid hB
 have HO:=hid hO
 have hfp:=fld_p
 clear hB hO hN hP hn
 rw[hW]at o0 o1 n0 n1 n2 n3 n4 p0 p1 p2 p3 p4
 by_cases hkk:k=15\/k=10
 ·have HE:=hid (show may c lv0 tg p=tg by rw[HMAY.out,if_pos hkk])
  clear hk hop
  rcases hkk with rfl|rfl
  all_goals
   go_enter Tryz.func102,Tryz.ntmps102
   go_wp2
   go_ret
   rw[<-hW]
   exact⟨by rw[HE.out];rfl,HB.out⟩
 ·obtain⟨K,hK⟩:∃K,(kidI k op nk 0 p.l p.d p.i p.g p.s).l=K:=⟨_,rfl⟩
  have HE:=hid (show may c lv0 tg p=decide (K<=lv0) by rw[HMAY.out,if_neg hkk,hK])
  have HKP:=hid (fun w2=>_root_.Go.Proofs.YtebjmdpkobhcbaaGreatDoor.ps.impl_kidPos k op ⟨#[]⟩ ⟨#[]⟩ ak nk ck 0 p.l p.d p.i p.g p.s w2 hnb)
  rw[hK]at HKP
  obtain⟨a1,a2⟩:=ne_facts (show¬k=15 from fun h=>hkk (.inl h))
  obtain⟨b1,b2⟩:=ne_facts (show¬k=10 from fun h=>hkk (.inr h))
  clear hk hop hkk hK
  go_enter Tryz.func102,Tryz.ntmps102
  go_wp2
  rw[<-hW]at o0 o1 n0 n1 n2 n3 n4 p0 p1 p2 p3 p4|-
  clear hW
  go_region_law (first|(go_simp;go_at_call 164;refine(HKP.out _).mono ?_;rintro e w5 ⟨rfl,b5⟩;obtain⟨y,o⟩:=(HO.keep (undrew b5)).c2;have B5:=HB.trans ((undrew b5).mono HB.size)))
  all_goals
   go_wp2
   go_ret
   exact⟨by rw[HE.out];first|rfl|(congr 2;simp),B5⟩
end
open ps (fits Ps B5 posOk kidI top)
theorem resq0{w0:World}{a:Option Addr}{n cap:Nat}{zb:List Nd}{v0 v:Value}{z0 z:List (Nd×Value)}{r0 r:Nat->Nat}{ws w:World}{R:R}{e:Ending}{w':World}{gR q i:Nat}(hq:ws.heap.size<=q\/q=w0.heap.size)(F:Fy w0 a n cap (X0 w0.heap.size) gR v0 z0 r0 ws i v z r w)(h:Res w0 a n cap zb (Xq w0.heap.size q) v z r w R e w')(hgq:gR≠q)(y0 y1:Value):Res w0 a n cap zb (X0 w0.heap.size) v0 z0 r0 ws R e ((w'.setCell ⟨gR,0,none⟩ y0).setCell ⟨gR,1,none⟩ y1):=by
 have m:Mb (Xq w0.heap.size q) w0.heap.size gR #[.int .i64 0,.bool false] 82 v z r w:=⟨F.rb.bk,fun hk=>by rcases hk with h|h;exact F.rb.x h;exact hgq h,F.rb.b,F.rb.o,F.rb.r⟩
 exact(h.fin (F.tot.wide (fun k _ h=>Or.inl h)) m F.ge y0 y1).wide fun k hk hx=>by
  rcases hx with h1|h1
  ·exact h1
  ·rcases hq with h2|h2
   ·omega
   ·exact h1.trans h2
theorem resq0_bk{w0:World}{a:Option Addr}{n cap:Nat}{zb:List Nd}{v0 v:Value}{z0 z:List (Nd×Value)}{r0 r:Nat->Nat}{ws w:World}{R:R}{e:Ending}{w':World}{gR q i:Nat}(F:Fy w0 a n cap (X0 w0.heap.size) gR v0 z0 r0 ws i v z r w)(h:Res w0 a n cap zb (Xq w0.heap.size q) v z r w R e w')(hgq:gR≠q):Bk gR #[.int .i64 0,.bool false] 82 w':=
 h.bk F.rb.bk (fun hk=>by rcases hk with h|h;exact F.rb.x h;exact hgq h) F.rb.o
theorem NewRow.rw{w0:World}{a:Option Addr}{n cap i:Nat}{v:Value}{z:List (Nd×Value)}{r:Nat->Nat}{m:Nat}{u:Value}{w w':World}(h:NewRow m u w w')(hm:0<m)(hm2:m<=10)(hst:St w0 a n cap i v z r w):∃q,w.heap.size<q/\q<w'.heap.size/\u= .slice (some ⟨q,0,none⟩) m m/\Rw w0.heap.size q u (zs m) v z r w':=by
 rcases h with ⟨h,-⟩|⟨-,q,h1,h2,h3⟩
 ·omega
 ·refine⟨q,h1,h3.lt,h2,.inr ⟨.inr ⟨m,by rw[h2];simp[zs],h3,by have:=hst.lt;omega,by unfold maxLen;omega⟩,h3.lt,fun j hj=>by have:=hst.own.lt j hj;omega,fun e=>hst.new (Nat.le_of_lt h1) e.symm,by have:=hst.lt;omega⟩⟩
section
variable {w0:World} {l:List Tk} {a:Option Addr} {cap i:Nat} {v:Value} {z:List (Nd×Value)} {r:Nat->Nat} {E:Ps->Nat->R} {M i0:Nat}
set_option maxHeartbeats 6400000 in
theorem first_case{c K O:Int}{m:Nat}{F:FuncId}{fn:Func}{RR:R}(hE:CallE w0 a cap l E i0)(hOk:∀p i,i<=l.length->Ok M l i (E p i))(p:Ps)(w:World)(h0:i0<=i+1)(hi:i<=l.length)(hl:l.length<=50000)(hc:tk.Lies w0.heap.size w0 a l)(hz:z.length+2*(l.length-i)<=200000)(hst:St w0 a l.length cap i v z r w)(hfn:Tryz.prog.funcs[F]? =some fn)(hfb:fn.body.isNone=false)(hfm:(fn.name== "runtime.NumGoroutine")=false)(hm:m<=10)(hcc:kd l i=c)(h32:¬c=32)(hf:first E l p i=if ft K O p=true then RR else .bad i)
  (hbg:∀W:World,Calls Tryz.prog 156 #[.pointer (some ⟨w0.heap.size,0,none⟩),.int .i64 c] W (Begun K O m (.func (.func F) #[.pointer (some ⟨w0.heap.size,0,none⟩)] #[]) W))
  (hM:∀(u:Value) (q:Nat) (W2:World),St w0 a l.length cap i v z r W2->q<W2.heap.size->(m=0/\u= .slice none 0 0/\q=w0.heap.size)\/(0<m/\u= .slice (some ⟨q,0,none⟩) m m/\Rw w0.heap.size q u (zs m) v z r W2)->
   Calls Tryz.prog F #[.pointer (some ⟨w0.heap.size,0,none⟩),.agg #[.int .i64 K,.int .i64 O,.string ⟨#[]⟩,.string ⟨#[]⟩,u],.agg #[.int .i64 p.l,.bool p.d,.bool p.i,.bool p.g,.bool p.s]] W2 (Res w0 a l.length cap (z.map (·.1)) (Xq w0.heap.size q) v z r W2 RR)):
  Calls Tryz.prog 98 #[.pointer (some ⟨w0.heap.size,0,none⟩),.agg #[.int .i64 p.l,.bool p.d,.bool p.i,.bool p.g,.bool p.s]] w (Res w0 a l.length cap (z.map (·.1)) (X0 w0.heap.size) v z r w (first E l p i)):=by
 obtain⟨W,hW⟩:∃W,W=(w.alloc (.cells #[.int .i64 p.l,.bool p.d,.bool p.i,.bool p.g,.bool p.s] 44)).alloc (.cells #[.int .i64 0,.bool false] 82):=⟨_,rfl⟩
 have hB:Below w.heap.size w W:=by rw[hW];exact((Below.refl _ _).alloc (Nat.le_refl _) _).alloc (by simp) _
 have hPb:Bk w.heap.size #[.int .i64 p.l,.bool p.d,.bool p.i,.bool p.g,.bool p.s] 44 W:=by rw[hW];exact(Bk.new _ _ _).alloc _
 have hRb:Bk (w.heap.size+1) #[.int .i64 0,.bool false] 82 W:=by
  rw[hW]
  have:=Bk.new (w.alloc (.cells #[.int .i64 p.l,.bool p.d,.bool p.i,.bool p.g,.bool p.s] 44)) #[.int .i64 0,.bool false] 82
  simpa using this
 have hlt:=hst.lt
 have P0:=hid (Mb.new (X:=X0 w0.heap.size) hst hPb (Nat.le_refl _) (by unfold X0;omega))
 have F0:=hid (show Fy w0 a l.length cap (X0 w0.heap.size) (w.heap.size+1) v z r w i v z r W from⟨hst.keep hB,Ext.of (Gr.quiet hB),Mb.new hst hRb (by omega) (by unfold X0;omega),by omega⟩)
 have HXB:=hid (show X0 w0.heap.size w0.heap.size from rfl)
 have HC:=hid hc
 have HL:=hid hl
 have HI:=hid hi
 have HZ:=hid hz
 have HLT:=hid hlt
 have HBW:=hid hB.size
 have HNX:=hid (next_any W F0.st hc (by omega) hi)
 have hfk:=fld_k
 rw[hcc]at HNX
 rw[hf]
 have P:¬fn.name= "runtime.NumGoroutine":=by simpa using hfm
 have N:¬fn.body=none:=fun e=>by rw[e]at hfb;cases hfb
 have hcall:∀(args:Array Value) (W:World),(callFunc F args).run Tryz.prog W= .ok (.enter F args) W:=fun args W=>by simp[callFunc,go_sem,hfn,P,N]
 clear P N
 have HM:=hid hM
 have HBG:=hid hbg
 have HMX:=hid hm
 obtain⟨U,V⟩:=ne_facts h32
 clear hfn hfb hfm hf hM hbg hm hcc h32 hE hOk h0
 clear hst hB hPb hRb hz hi hl hc hlt
 obtain⟨ff,hft⟩:∃ff,ft K O p=ff:=⟨_,rfl⟩
 have HFT:=hid (show fits K O p.l p.d p.i p.g p.s=ff from hft)
 rw[hft]
 clear hft
 cases ff with
 |false=>
  rw[if_neg (by decide)]
  go_enter Tryz.func98,Tryz.ntmps98
  go_wp2_with fail
  rw[<-hW]
  clear hW
  refine HNX.mono ?_
  rintro e w1 ⟨rfl,b1⟩
  have F1:=hid (F0.quiet b1)
  have P1:=hid (P0.ext (Ext.of (Gr.quiet b1)))
  clear b1
  go_wp2_with fail
  refine(HBG.out _).mono ?_
  rintro e w2 ⟨u,rfl,b2,nr⟩
  have F2:=hid (F1.quiet b2)
  have P2:=hid (P1.ext (Ext.of (Gr.quiet b2)))
  by_cases hm0:m=0
  ·subst hm0
   rcases nr with ⟨-,rfl⟩|⟨hm,-⟩
   case inr=>omega
   case inl=>
    clear b2
    have o:=hid (Bk.new w2 #[.int .i64 K,.int .i64 O,.string ⟨#[]⟩,.string ⟨#[]⟩,.slice none 0 0] 33)
    have B3:=hid (show Below w2.heap.size w2 (w2.alloc (.cells #[.int .i64 K,.int .i64 O,.string ⟨#[]⟩,.string ⟨#[]⟩,.slice none 0 0] 33))from(Below.refl _ _).alloc (Nat.le_refl _) _)
    have F3:=hid (F2.quiet B3.out)
    have P3:=hid (P2.ext (Ext.of (Gr.quiet B3.out)))
    have N3:=hid (show Mb (X0 w0.heap.size) w0.heap.size w2.heap.size _ _ v z r _ from Mb.new F2.st o.out (Nat.le_refl _) (by have:=F2.st.lt;unfold X0;omega))
    have p0:=P3.bk.c5
    have n0:=o.c5
    go_wp2_with fail
    clear p0 n0
    refine(_root_.Go.Proofs.YtebjmdpkobhcbaaGreatDoor.ps.impl_fits K O p.l ⟨#[]⟩ ⟨#[]⟩ none 0 0 p.d p.i p.g p.s _).mono ?_
    rw[HFT.out]
    rintro e w4 ⟨rfl,b4⟩
    have F4:=hid (F3.quiet b4)
    have P4:=hid (P3.ext (Ext.of (Gr.quiet b4)))
    have N4:=hid (N3.ext (Ext.of (Gr.quiet b4)))
    clear b4
    obtain⟨r0,r1⟩:=F4.rb.bk.c2
    have g0:=F4.rb.bk.f 0
    have g1:=F4.rb.bk.f 1
    go_wp2
    obtain⟨t0,t1⟩:=(F4.rb.bk.put2 (.int .i64 0) (.bool false)).c2
    exact bodyPost_ret (v:= .agg #[.int .i64 0,.bool false]) (by simp[results,Tryz.results98,go_sem,t0,t1]) rfl ((F4.bad _ _ rfl))
  ·have G:=hid (Nat.pos_of_ne_zero hm0)
   obtain⟨q,y,A,rfl,C⟩:=nr.rw G.out HMX.out F1.st
   have D:=hid (show w.heap.size+1<q from Nat.lt_trans F1.rb.bk.lt y)
   have X2:=hid C
   have H:=hid A
   clear y A C b2 hm0
   have o:=hid (Bk.new w2 #[.int .i64 K,.int .i64 O,.string ⟨#[]⟩,.string ⟨#[]⟩,.slice (some ⟨q,0,none⟩) m m] 33)
   have B3:=hid (show Below w2.heap.size w2 (w2.alloc (.cells #[.int .i64 K,.int .i64 O,.string ⟨#[]⟩,.string ⟨#[]⟩,.slice (some ⟨q,0,none⟩) m m] 33))from(Below.refl _ _).alloc (Nat.le_refl _) _)
   have F3:=hid (F2.quiet B3.out)
   have P3:=hid (P2.ext (Ext.of (Gr.quiet B3.out)))
   have N3:=hid (show Mb (X0 w0.heap.size) w0.heap.size w2.heap.size _ _ v z r _ from Mb.new F2.st o.out (Nat.le_refl _) (by have:=F2.st.lt;unfold X0;omega))
   have p0:=P3.bk.c5
   have n0:=o.c5
   go_wp2_with fail
   clear p0 n0
   refine(_root_.Go.Proofs.YtebjmdpkobhcbaaGreatDoor.ps.impl_fits K O p.l ⟨#[]⟩ ⟨#[]⟩ (some ⟨q,0,none⟩) m m p.d p.i p.g p.s _).mono ?_
   rw[HFT.out]
   rintro e w4 ⟨rfl,b4⟩
   have F4:=hid (F3.quiet b4)
   have P4:=hid (P3.ext (Ext.of (Gr.quiet b4)))
   have N4:=hid (N3.ext (Ext.of (Gr.quiet b4)))
   have X4:=hid ((X2.quiet B3.out).quiet b4)
   have Q:=hid (show q<w4.heap.size from Nat.lt_of_lt_of_le H.out (Nat.le_trans B3.size b4.size))
   clear b4
   obtain⟨r0,r1⟩:=F4.rb.bk.c2
   have g0:=F4.rb.bk.f 0
   have g1:=F4.rb.bk.f 1
   go_wp2
   obtain⟨t0,t1⟩:=(F4.rb.bk.put2 (.int .i64 0) (.bool false)).c2
   exact bodyPost_ret (v:= .agg #[.int .i64 0,.bool false]) (by simp[results,Tryz.results98,go_sem,t0,t1]) rfl ((F4.bad _ _ rfl))
 |true=>
  rw[if_pos rfl]
  go_enter Tryz.func98,Tryz.ntmps98
  go_wp2_with fail
  rw[<-hW]
  clear hW
  refine HNX.mono ?_
  rintro e w1 ⟨rfl,b1⟩
  have F1:=hid (F0.quiet b1)
  have P1:=hid (P0.ext (Ext.of (Gr.quiet b1)))
  clear b1
  go_wp2_with fail
  refine(HBG.out _).mono ?_
  rintro e w2 ⟨u,rfl,b2,nr⟩
  have F2:=hid (F1.quiet b2)
  have P2:=hid (P1.ext (Ext.of (Gr.quiet b2)))
  by_cases hm0:m=0
  ·subst hm0
   rcases nr with ⟨-,rfl⟩|⟨hm,-⟩
   case inr=>omega
   case inl=>
    clear b2
    have o:=hid (Bk.new w2 #[.int .i64 K,.int .i64 O,.string ⟨#[]⟩,.string ⟨#[]⟩,.slice none 0 0] 33)
    have B3:=hid (show Below w2.heap.size w2 (w2.alloc (.cells #[.int .i64 K,.int .i64 O,.string ⟨#[]⟩,.string ⟨#[]⟩,.slice none 0 0] 33))from(Below.refl _ _).alloc (Nat.le_refl _) _)
    have F3:=hid (F2.quiet B3.out)
    have P3:=hid (P2.ext (Ext.of (Gr.quiet B3.out)))
    have N3:=hid (show Mb (X0 w0.heap.size) w0.heap.size w2.heap.size _ _ v z r _ from Mb.new F2.st o.out (Nat.le_refl _) (by have:=F2.st.lt;unfold X0;omega))
    have p0:=P3.bk.c5
    have n0:=o.c5
    go_wp2_with fail
    clear p0 n0
    refine(_root_.Go.Proofs.YtebjmdpkobhcbaaGreatDoor.ps.impl_fits K O p.l ⟨#[]⟩ ⟨#[]⟩ none 0 0 p.d p.i p.g p.s _).mono ?_
    rw[HFT.out]
    rintro e w4 ⟨rfl,b4⟩
    have F4:=hid (F3.quiet b4)
    have P4:=hid (P3.ext (Ext.of (Gr.quiet b4)))
    have N4:=hid (N3.ext (Ext.of (Gr.quiet b4)))
    clear b4
    have p0:=P4.bk.c5
    have n0:=N4.bk.c5
    go_wp2_with fail
    clear p0 n0
    refine(HM.out _ w0.heap.size _ F4.st F4.st.lt (.inl ⟨by simp,rfl,rfl⟩)).mono ?_
    rintro e w9 h9
    obtain⟨rfl,J⟩:=id h9
    have H9:=hid h9
    have R9:=hid (resq0_bk F4.out h9 (by have:=HLT.out;omega))
    obtain⟨r0,r1⟩:=R9.c2
    have g0:=R9.f 0
    have g1:=R9.f 1
    clear h9 J
    go_wp2
    obtain⟨t0,t1⟩:=(R9.put2 (.int .i64 (lvR RR)) (.bool (tgR RR))).c2
    exact bodyPost_ret (v:= .agg #[.int .i64 (lvR RR),.bool (tgR RR)]) (by simp[results,Tryz.results98,go_sem,t0,t1]) rfl (resq0 (.inr rfl) F4.out H9.out (by have:=HLT.out;omega) _ _)
  ·have G:=hid (Nat.pos_of_ne_zero hm0)
   obtain⟨q,y,A,rfl,C⟩:=nr.rw G.out HMX.out F1.st
   have D:=hid (show w.heap.size+1<q from Nat.lt_trans F1.rb.bk.lt y)
   have X2:=hid C
   have H:=hid A
   clear y A C b2 hm0
   have o:=hid (Bk.new w2 #[.int .i64 K,.int .i64 O,.string ⟨#[]⟩,.string ⟨#[]⟩,.slice (some ⟨q,0,none⟩) m m] 33)
   have B3:=hid (show Below w2.heap.size w2 (w2.alloc (.cells #[.int .i64 K,.int .i64 O,.string ⟨#[]⟩,.string ⟨#[]⟩,.slice (some ⟨q,0,none⟩) m m] 33))from(Below.refl _ _).alloc (Nat.le_refl _) _)
   have F3:=hid (F2.quiet B3.out)
   have P3:=hid (P2.ext (Ext.of (Gr.quiet B3.out)))
   have N3:=hid (show Mb (X0 w0.heap.size) w0.heap.size w2.heap.size _ _ v z r _ from Mb.new F2.st o.out (Nat.le_refl _) (by have:=F2.st.lt;unfold X0;omega))
   have p0:=P3.bk.c5
   have n0:=o.c5
   go_wp2_with fail
   clear p0 n0
   refine(_root_.Go.Proofs.YtebjmdpkobhcbaaGreatDoor.ps.impl_fits K O p.l ⟨#[]⟩ ⟨#[]⟩ (some ⟨q,0,none⟩) m m p.d p.i p.g p.s _).mono ?_
   rw[HFT.out]
   rintro e w4 ⟨rfl,b4⟩
   have F4:=hid (F3.quiet b4)
   have P4:=hid (P3.ext (Ext.of (Gr.quiet b4)))
   have N4:=hid (N3.ext (Ext.of (Gr.quiet b4)))
   have X4:=hid ((X2.quiet B3.out).quiet b4)
   have Q:=hid (show q<w4.heap.size from Nat.lt_of_lt_of_le H.out (Nat.le_trans B3.size b4.size))
   clear b4
   have p0:=P4.bk.c5
   have n0:=N4.bk.c5
   go_wp2_with fail
   clear p0 n0
   refine(HM.out _ q _ F4.st Q.out (.inr ⟨G.out,rfl,X4.out⟩)).mono ?_
   rintro e w9 h9
   obtain⟨rfl,J⟩:=id h9
   have H9:=hid h9
   have R9:=hid (resq0_bk F4.out h9 (by have:=D.out;omega))
   obtain⟨r0,r1⟩:=R9.c2
   have g0:=R9.f 0
   have g1:=R9.f 1
   clear h9 J
   go_wp2
   obtain⟨t0,t1⟩:=(R9.put2 (.int .i64 (lvR RR)) (.bool (tgR RR))).c2
   exact bodyPost_ret (v:= .agg #[.int .i64 (lvR RR),.bool (tgR RR)]) (by simp[results,Tryz.results98,go_sem,t0,t1]) rfl (resq0 (.inl (by have:=D.out;omega)) F4.out H9.out (by have:=D.out;omega) _ _)
set_option maxHeartbeats 6400000 in
theorem first_any(hE:CallE w0 a cap l E i0)(hOk:∀p i,i<=l.length->Ok M l i (E p i))(p:Ps)(w:World)(h0:i0<=i+1)(hi:i<=l.length)(hl:l.length<=50000)(hc:tk.Lies w0.heap.size w0 a l)(hz:z.length+2*(l.length-i)<=200000)(hst:St w0 a l.length cap i v z r w):
  Calls Tryz.prog 98 #[.pointer (some ⟨w0.heap.size,0,none⟩),.agg #[.int .i64 p.l,.bool p.d,.bool p.i,.bool p.g,.bool p.s]] w (Res w0 a l.length cap (z.map (·.1)) (X0 w0.heap.size) v z r w (first E l p i)):=by
 obtain⟨W,hW⟩:∃W,W=(w.alloc (.cells #[.int .i64 p.l,.bool p.d,.bool p.i,.bool p.g,.bool p.s] 44)).alloc (.cells #[.int .i64 0,.bool false] 82):=⟨_,rfl⟩
 have hB:Below w.heap.size w W:=by rw[hW];exact((Below.refl _ _).alloc (Nat.le_refl _) _).alloc (by simp) _
 have hPb:Bk w.heap.size #[.int .i64 p.l,.bool p.d,.bool p.i,.bool p.g,.bool p.s] 44 W:=by rw[hW];exact(Bk.new _ _ _).alloc _
 have hRb:Bk (w.heap.size+1) #[.int .i64 0,.bool false] 82 W:=by
  rw[hW]
  have:=Bk.new (w.alloc (.cells #[.int .i64 p.l,.bool p.d,.bool p.i,.bool p.g,.bool p.s] 44)) #[.int .i64 0,.bool false] 82
  simpa using this
 have hlt:=hst.lt
 have P0:=hid (Mb.new (X:=X0 w0.heap.size) hst hPb (Nat.le_refl _) (by unfold X0;omega))
 have F0:=hid (show Fy w0 a l.length cap (X0 w0.heap.size) (w.heap.size+1) v z r w i v z r W from⟨hst.keep hB,Ext.of (Gr.quiet hB),Mb.new hst hRb (by omega) (by unfold X0;omega),by omega⟩)
 have HXB:=hid (show X0 w0.heap.size w0.heap.size from rfl)
 have HC:=hid hc
 have HL:=hid hl
 have HI:=hid hi
 have HZ:=hid hz
 have HLT:=hid hlt
 have HBW:=hid hB.size
 have HNX:=hid (next_any W F0.st hc (by omega) hi)
 have hfk:=fld_k
 obtain⟨c,hcc⟩:∃c,kd l i=c:=⟨_,rfl⟩
 rw[hcc]at HNX
 have F:z.map (·.1)=z.map (·.1)++G1 (z.map (·.1)).length []:=by rw[G1_nil,List.append_nil]
 by_cases D:c=32
 ·subst D
  rw[show first E l p i=group E l p i from by unfold first;rw[if_pos hcc]]
  have A:=kd_lt (l:=l) (i:=i) (by omega)
  have HGR:=hid (fun W2 (s2:St w0 a l.length cap i v z r W2)=>group_any hE hOk p (z.map (·.1)) W2 h0 A hl hc hz s2 rfl)
  clear F hcc A hE hOk h0
  clear hst hB hPb hRb hz hi hl hc hlt
  go_enter Tryz.func98,Tryz.ntmps98
  go_wp2_with fail
  rw[<-hW]
  clear hW
  refine HNX.mono ?_
  rintro e w1 ⟨rfl,b1⟩
  have F1:=hid (F0.quiet b1)
  have P1:=hid (P0.ext (Ext.of (Gr.quiet b1)))
  clear b1
  have p0:=P1.bk.c5
  go_wp2_with fail
  clear p0
  refine(HGR.out _ F1.st).mono ?_
  rintro e w9 h9
  obtain⟨rfl,J⟩:=id h9
  have H9:=hid h9
  have R9:=hid (F1.rbk h9)
  obtain⟨r0,r1⟩:=R9.c2
  have g0:=R9.f 0
  have g1:=R9.f 1
  clear h9 J
  go_wp2
  obtain⟨t0,t1⟩:=(R9.put2 (.int .i64 (lvR (group E l p i))) (.bool (tgR (group E l p i)))).c2
  exact bodyPost_ret (v:= .agg #[.int .i64 (lvR (group E l p i)),.bool (tgR (group E l p i))]) (by simp[results,Tryz.results98,go_sem,t0,t1]) rfl ((F1.res H9.out _ _))
 have hfst:first E l p i=if ft (bgK c) (bgO c) p=true then bgR E l c p i else .bad i:=by unfold first;rw[hcc,if_neg D]
 by_cases hc3:c=3
 ·subst hc3
  have A:=kd_lt (l:=l) (i:=i) (by omega)
  exact first_case hE hOk p w h0 hi hl hc hz hst Tryz.func234 rfl rfl (by decide) hcc D hfst (begun_l (by simp[bgK,bgO]) _) (fun u q W2 s2 C y=>by
   rcases y with ⟨-,rfl,rfl⟩|⟨hh,-⟩
   case inr=>omega
   case inl=>exact(word_any 2 0 ⟨#[]⟩ (z.map (·.1)) [] (.slice none 0 0) w0.heap.size p W2 A hl hc (by omega) s2 C (.inl ⟨rfl,rfl⟩) F))
 by_cases hc4:c=4
 ·subst hc4
  have A:=kd_lt (l:=l) (i:=i) (by omega)
  exact first_case hE hOk p w h0 hi hl hc hz hst Tryz.func234 rfl rfl (by decide) hcc D hfst (begun_l (by simp[bgK,bgO]) _) (fun u q W2 s2 C y=>by
   rcases y with ⟨-,rfl,rfl⟩|⟨hh,-⟩
   case inr=>omega
   case inl=>exact(word_any 3 0 ⟨#[]⟩ (z.map (·.1)) [] (.slice none 0 0) w0.heap.size p W2 A hl hc (by omega) s2 C (.inl ⟨rfl,rfl⟩) F))
 by_cases hc5:c=5
 ·subst hc5
  have A:=kd_lt (l:=l) (i:=i) (by omega)
  exact first_case hE hOk p w h0 hi hl hc hz hst Tryz.func234 rfl rfl (by decide) hcc D hfst (begun_l (by simp[bgK,bgO]) _) (fun u q W2 s2 C y=>by
   rcases y with ⟨-,rfl,rfl⟩|⟨hh,-⟩
   case inr=>omega
   case inl=>exact(word_any 4 0 ⟨#[]⟩ (z.map (·.1)) [] (.slice none 0 0) w0.heap.size p W2 A hl hc (by omega) s2 C (.inl ⟨rfl,rfl⟩) F))
 by_cases hc6:c=6
 ·subst hc6
  have A:=kd_lt (l:=l) (i:=i) (by omega)
  exact first_case hE hOk p w h0 hi hl hc hz hst Tryz.func235 rfl rfl (by decide) hcc D hfst (begun_l (by simp[bgK,bgO]) _) (fun u q W2 s2 C y=>by
   rcases y with ⟨-,rfl,rfl⟩|⟨hh,-⟩
   case inr=>omega
   case inl=>exact((name_any hE hOk ⟨#[]⟩ (z.map (·.1)) p W2 h0 A hl hc hz s2 rfl).mono fun e W' h=>h.wide fun k _ h=>Or.inl h))
 by_cases hc7:c=7
 ·subst hc7
  have A:=kd_lt (l:=l) (i:=i) (by omega)
  exact first_case hE hOk p w h0 hi hl hc hz hst Tryz.func236 rfl rfl (by decide) hcc D hfst (begun_l (by simp[bgK,bgO]) _) (fun u q W2 s2 C y=>by
   rcases y with ⟨-,rfl,rfl⟩|⟨hh,-⟩
   case inr=>omega
   case inl=>exact((call_any hE hOk 7 ⟨#[]⟩ (z.map (·.1)) p W2 h0 A hl hc hz s2 rfl).mono fun e W' h=>h.wide fun k _ h=>Or.inl h))
 by_cases hc8:c=8
 ·subst hc8
  have A:=kd_lt (l:=l) (i:=i) (by omega)
  exact first_case hE hOk p w h0 hi hl hc hz hst Tryz.func237 rfl rfl (by decide) hcc D hfst (begun_l (by simp[bgK,bgO]) _) (fun u q W2 s2 C y=>by
   rcases y with ⟨-,rfl,rfl⟩|⟨hh,-⟩
   case inr=>omega
   case inl=>exact((builtin_any hE hOk ⟨#[]⟩ (z.map (·.1)) p W2 h0 A hl hc hz s2 rfl).mono fun e W' h=>h.wide fun k _ h=>Or.inl h))
 by_cases hc68:c=68
 ·subst hc68
  have A:=kd_lt (l:=l) (i:=i) (by omega)
  exact first_case hE hOk p w h0 hi hl hc hz hst Tryz.func238 rfl rfl (by decide) hcc D hfst (begun_r (by simp[bgK,bgO]) _) (fun u q W2 s2 C y=>by
   rcases y with ⟨hh,-⟩|⟨-,rfl,y⟩
   case inl=>omega
   case inr=>exact prefixed_any hE hOk 6 0 ⟨#[]⟩ rfl h0 (z.map (·.1)) _ q p W2 A hl hc hz s2 C y F)
 by_cases hc51:c=51
 ·subst hc51
  have A:=kd_lt (l:=l) (i:=i) (by omega)
  exact first_case hE hOk p w h0 hi hl hc hz hst Tryz.func239 rfl rfl (by decide) hcc D hfst (begun_r (by simp[bgK,bgO]) _) (fun u q W2 s2 C y=>by
   rcases y with ⟨hh,-⟩|⟨-,rfl,y⟩
   case inl=>omega
   case inr=>exact pre_any hE hOk 51 ⟨#[]⟩ rfl h0 (z.map (·.1)) _ q p W2 A hl hc hz s2 C y F)
 by_cases hc52:c=52
 ·subst hc52
  have A:=kd_lt (l:=l) (i:=i) (by omega)
  exact first_case hE hOk p w h0 hi hl hc hz hst Tryz.func239 rfl rfl (by decide) hcc D hfst (begun_r (by simp[bgK,bgO]) _) (fun u q W2 s2 C y=>by
   rcases y with ⟨hh,-⟩|⟨-,rfl,y⟩
   case inl=>omega
   case inr=>exact pre_any hE hOk 52 ⟨#[]⟩ rfl h0 (z.map (·.1)) _ q p W2 A hl hc hz s2 C y F)
 by_cases hc55:c=55
 ·subst hc55
  have A:=kd_lt (l:=l) (i:=i) (by omega)
  exact first_case hE hOk p w h0 hi hl hc hz hst Tryz.func238 rfl rfl (by decide) hcc D hfst (begun_r (by simp[bgK,bgO]) _) (fun u q W2 s2 C y=>by
   rcases y with ⟨hh,-⟩|⟨-,rfl,y⟩
   case inl=>omega
   case inr=>exact prefixed_any hE hOk 11 55 ⟨#[]⟩ rfl h0 (z.map (·.1)) _ q p W2 A hl hc hz s2 C y F)
 by_cases hc56:c=56
 ·subst hc56
  have A:=kd_lt (l:=l) (i:=i) (by omega)
  exact first_case hE hOk p w h0 hi hl hc hz hst Tryz.func238 rfl rfl (by decide) hcc D hfst (begun_r (by simp[bgK,bgO]) _) (fun u q W2 s2 C y=>by
   rcases y with ⟨hh,-⟩|⟨-,rfl,y⟩
   case inl=>omega
   case inr=>exact prefixed_any hE hOk 11 56 ⟨#[]⟩ rfl h0 (z.map (·.1)) _ q p W2 A hl hc hz s2 C y F)
 by_cases hc61:c=61
 ·subst hc61
  have A:=kd_lt (l:=l) (i:=i) (by omega)
  exact first_case hE hOk p w h0 hi hl hc hz hst Tryz.func238 rfl rfl (by decide) hcc D hfst (begun_r (by simp[bgK,bgO]) _) (fun u q W2 s2 C y=>by
   rcases y with ⟨hh,-⟩|⟨-,rfl,y⟩
   case inl=>omega
   case inr=>exact prefixed_any hE hOk 11 61 ⟨#[]⟩ rfl h0 (z.map (·.1)) _ q p W2 A hl hc hz s2 C y F)
 have H:bgK c=0:=by unfold bgK;rw[if_neg (by omega),if_neg (by omega),if_neg (by omega),if_neg (by omega),if_neg (by omega),if_neg (by omega),if_neg (by omega),if_neg (by omega),if_neg (by omega)]
 have hff:∀o,ft 0 o p=false:=fun o=>by unfold ft fits;rw[show lv.levelOf 0 o=0 from by simp[lv.levelOf]];simp
 have HFT:=hid (show fits 0 0 p.l p.d p.i p.g p.s=false from hff 0)
 rw[hfst,H,if_neg (by rw[hff];decide)]
 obtain⟨K,N⟩:=ne_facts D
 clear hfst F hcc hE hOk h0 D hff hc3 hc4 hc5 hc6 hc7 hc8 hc68 hc51 hc52 hc55 hc56 hc61
 clear hst hB hPb hRb hz hi hl hc hlt
 go_enter Tryz.func98,Tryz.ntmps98
 go_wp2_with fail
 rw[<-hW]
 clear hW
 refine HNX.mono ?_
 rintro e w1 ⟨rfl,b1⟩
 have F1:=hid (F0.quiet b1)
 have P1:=hid (P0.ext (Ext.of (Gr.quiet b1)))
 clear b1
 go_wp2_with fail
 refine(begun_none _ _ H _).mono ?_
 rintro e w2 ⟨u,rfl,b2,nr⟩
 have F2:=hid (F1.quiet b2)
 have P2:=hid (P1.ext (Ext.of (Gr.quiet b2)))
 rcases nr with ⟨-,rfl⟩|⟨hm,-⟩
 case inr=>exact absurd hm (by decide)
 case inl=>
  clear b2
  have G:=hid (Bk.new w2 #[.int .i64 0,.int .i64 0,.string ⟨#[]⟩,.string ⟨#[]⟩,.slice none 0 0] 33)
  have B3:=hid (show Below w2.heap.size w2 (w2.alloc (.cells #[.int .i64 0,.int .i64 0,.string ⟨#[]⟩,.string ⟨#[]⟩,.slice none 0 0] 33))from(Below.refl _ _).alloc (Nat.le_refl _) _)
  have F3:=hid (F2.quiet B3.out)
  have P3:=hid (P2.ext (Ext.of (Gr.quiet B3.out)))
  have N3:=hid (show Mb (X0 w0.heap.size) w0.heap.size w2.heap.size _ _ v z r _ from Mb.new F2.st G.out (Nat.le_refl _) (by have:=F2.st.lt;unfold X0;omega))
  have p0:=P3.bk.c5
  have n0:=G.c5
  go_wp2_with fail
  clear p0 n0
  refine(_root_.Go.Proofs.YtebjmdpkobhcbaaGreatDoor.ps.impl_fits 0 0 p.l ⟨#[]⟩ ⟨#[]⟩ none 0 0 p.d p.i p.g p.s _).mono ?_
  rw[HFT.out]
  rintro e w4 ⟨rfl,b4⟩
  have F4:=hid (F3.quiet b4)
  have P4:=hid (P3.ext (Ext.of (Gr.quiet b4)))
  have N4:=hid (N3.ext (Ext.of (Gr.quiet b4)))
  clear b4
  obtain⟨r0,r1⟩:=F4.rb.bk.c2
  have g0:=F4.rb.bk.f 0
  have g1:=F4.rb.bk.f 1
  go_wp2
  obtain⟨t0,t1⟩:=(F4.rb.bk.put2 (.int .i64 0) (.bool false)).c2
  exact bodyPost_ret (v:= .agg #[.int .i64 0,.bool false]) (by simp[results,Tryz.results98,go_sem,t0,t1]) rfl ((F4.bad _ _ rfl))
end
theorem Mb.extq{b q g:Nat}{c:Array Value}{ty:TypeId}{v v':Value}{z z':List (Nd×Value)}{r r':Nat->Nat}{w w':World}(h:Mb (X0 b) b g c ty v z r w)(e:Ext (Xq b q) v z r w v' z' r' w')(hne:g≠q):Mb (X0 b) b g c ty v' z' r' w':=by
 have m:Mb (Xq b q) b g c ty v z r w:=⟨h.bk,fun hk=>by rcases hk with h1|h1;exact h.x h1;exact hne h1,h.b,h.o,h.r⟩
 have m2:=m.ext e
 exact⟨m2.bk,h.x,h.b,m2.o,m2.r⟩
section
variable {w0:World} {a:Option Addr} {n cap:Nat} {gR q:Nat} {v0:Value} {z0:List (Nd×Value)} {r0:Nat->Nat} {ws:World} {i i':Nat} {v v':Value} {z z':List (Nd×Value)} {r r':Nat->Nat} {w w':World}
theorem Fy.goq(h:Fy w0 a n cap (X0 w0.heap.size) gR v0 z0 r0 ws i v z r w)(s:St w0 a n cap i' v' z' r' w')(e:Ext (Xq w0.heap.size q) v z r w v' z' r' w')(hq:ws.heap.size<=q)(hne:gR≠q):Fy w0 a n cap (X0 w0.heap.size) gR v0 z0 r0 ws i' v' z' r' w':=
 ⟨s,((h.tot.wide (Y:=Xq w0.heap.size q) (fun k _ h=>Or.inl h)).trans e).wide (fun k hk hx=>by rcases hx with h1|h1;exact h1;omega),h.rb.extq e hne,h.ge⟩
theorem Fy.own(h:Fy w0 a n cap (X0 w0.heap.size) gR v0 z0 r0 ws i v z r w){g:Nat}{c:Array Value}{ty:TypeId}(m:Mb (X0 w0.heap.size) w0.heap.size g c ty v z r w)(hg:ws.heap.size<=g)(hne:gR≠g)(j:Nat)(u:Value):Fy w0 a n cap (X0 w0.heap.size) gR v0 z0 r0 ws i v z r (w.setCell ⟨g,j,none⟩ u):=
 h.goq (q:=g) (h.st.mset m j u) (Ext.of (Gr.set (X:=Xq w0.heap.size g) (Gr.refl _ v w) (.inl (Or.inr rfl)) j u)) hg hne
end
inductive Way (M:Nat) (l:List Tk) (E:Ps->Nat->R) (p:Ps) (zb:List Nd) (i0:Nat) (T:R):Int->Bool->Nat->List (Nd×Value)->Prop
 |fault (j:Nat) (z:List (Nd×Value)) (h:T= .bad j) (hj:j<=l.length):Way M l E p zb i0 T 0 false j z
 |on (lv:Int) (tg:Bool) (j:Nat) (z:List (Nd×Value)) (t:List Nd) (g:Nat) (hs:Sd M l i0 lv t j) (hm:z.map (·.1)=zb++t.map (shN (zb.length:Int))) (hT:T=go E l p g lv tg t j) (hg:l.length-j<g) (hz:z.length+2*(l.length-j)<=200000):Way M l E p zb i0 T lv tg j z
def lvOf(g:Nat)(w:World):Nat:=match w.cell? ⟨g,0,none⟩with
 |some (.int _ x)=>if x=0 then 0 else 1
 |_=>0
theorem lv_of{g:Nat}{w:World}{lv:Int}{tg:Bool}(h:Bk g #[.int .i64 lv,.bool tg] 82 w):lvOf g w=if lv=0 then 0 else 1:=by
 unfold lvOf
 rw[h.c2.1]
theorem way_of{M:Nat}{l:List Tk}{E:Ps->Nat->R}{p:Ps}{zb:List Nd}{i0:Nat}{T:R}{R0:R}{z:List (Nd×Value)}(h:Ok M l i0 R0)(hz:∀lv tg t j,R0= .ok lv tg t j->z.map (·.1)=zb++t.map (shN (zb.length:Int)))(hT:T=(match R0 with| .bad j=> .bad j| .ok lv tg t j=>go E l p (l.length+1) lv tg t j))(hb:zb.length+2*(l.length-i0)<=200000):Way M l E p zb i0 T (lvR R0) (tgR R0) (atR R0) z:=by
 cases R0 with
 |bad j=>exact .fault j z hT h.2
 |ok lv tg t j=>
  have hm:=hz _ _ _ _ rfl
  obtain⟨h1,h2,h3,h4,h5,h6⟩:=h
  refine .on lv tg j z t _ ⟨h1,h2,h3,h4,h5,h6⟩ hm hT (by omega) ?_
  have:=congrArg List.length hm
  rw[List.length_map,List.length_append,List.length_map]at this
  omega
theorem way_next{M:Nat}{l:List Tk}{E:Ps->Nat->R}(hOk:∀p i,i<=l.length->Ok M l i (E p i))(hM:∀t∈l,t.s.size<=M)(hb:l.length<=100000){p:Ps}{zb:List Nd}{i0 j g:Nat}{T:R}{lv:Int}{tg:Bool}{t:List Nd}{z:List (Nd×Value)}(hs:Sd M l i0 lv t j)(hg:goes (kd l j) lv tg p=true)(hT:T=go E l p (g+1) lv tg t j)(hgg:l.length-j<g+1)(hz:∀lv' tg' t' j',pe.step E l (kd l j) p t j= .ok lv' tg' t' j'->z.map (·.1)=zb++t'.map (shN (zb.length:Int)))(hbb:zb.length+2*(l.length-i0)<=200000):
  Way M l E p zb i0 T (lvR (pe.step E l (kd l j) p t j)) (tgR (pe.step E l (kd l j) p t j)) (atR (pe.step E l (kd l j) p t j)) z/\j<=atR (pe.step E l (kd l j) p t j)/\atR (pe.step E l (kd l j) p t j)<=l.length/\(lvR (pe.step E l (kd l j) p t j)=0\/j<atR (pe.step E l (kd l j) p t j)):=by
 rw[go_next hg]at hT
 have o:=step_ok hOk hM hb (p:=p) (i:=j) hs.2.2.2.2.2 hs.2.1 (by have:=hs.2.2.2.1;have:=hs.1;have:=hs.2.1;omega) (by unfold goes at hg;rw[Bool.and_eq_true]at hg;exact hg.1)
 cases hr:pe.step E l (kd l j) p t j with
 |bad j2=>
  rw[hr]at hT o
  exact⟨.fault j2 z hT o.2,o.1,o.2,.inl rfl⟩
 |ok lv' tg' t' j2=>
  obtain⟨s1,s2⟩:=sd_step hOk hM hb hs hg hr
  rw[hr]at hT
  have hm:=hz _ _ _ _ hr
  refine⟨.on lv' tg' j2 z t' g s1 hm hT (by have:=s1.2.1;omega) ?_,Nat.le_of_lt s2,s1.2.1,.inr s2⟩
  have:=congrArg List.length hm
  rw[List.length_map,List.length_append,List.length_map]at this
  obtain⟨h1,h2,h3,h4,h5,h6⟩:=s1
  omega
section
variable {w0:World} {l:List Tk} {a:Option Addr} {cap i:Nat} {v:Value} {z:List (Nd×Value)} {r:Nat->Nat} {E:Ps->Nat->R} {M i0:Nat}
def RelEx(w0:World)(a:Option Addr)(cap:Nat)(M:Nat)(l:List Tk)(E:Ps->Nat->R)(p:Ps)(i:Nat)(T:R)(v:Value)(z:List (Nd×Value))(r:Nat->Nat)(w:World)(gl:Nat)(wr:World):Prop:=
 ∃lv0 tg0 j v' z' r',Fy w0 a l.length cap (X0 w0.heap.size) (w.heap.size+1) v z r w j v' z' r' wr/\Mb (X0 w0.heap.size) w0.heap.size w.heap.size #[.int .i64 p.l,.bool p.d,.bool p.i,.bool p.g,.bool p.s] 44 v' z' r' wr/\Mb (X0 w0.heap.size) w0.heap.size gl #[.int .i64 lv0,.bool tg0] 82 v' z' r' wr/\Way M l E p (z.map (·.1)) i T lv0 tg0 j z'
theorem expr_next(hOk:∀p i,i<=l.length->Ok M l i (E p i))(hM:∀t∈l,t.s.size<=M)(hb:l.length<=100000){p:Ps}{T:R}{w W9 ww:World}{v3:Value}{z3:List (Nd×Value)}{r3:Nat->Nat}{gl q j g:Nat}{c lv0:Int}{tg0:Bool}{t:List Nd}(hcc:kd l j=c)(hs:Sd M l i lv0 t j)(hgo:goes c lv0 tg0 p=true)(hT:T=go E l p g lv0 tg0 t j)(hg:l.length-j<g)(hzl:(z.map (·.1)).length+2*(l.length-i)<=200000)
  (F9:Fy w0 a l.length cap (X0 w0.heap.size) (w.heap.size+1) v z r w j v3 z3 r3 W9) (P9:Mb (X0 w0.heap.size) w0.heap.size w.heap.size #[.int .i64 p.l,.bool p.d,.bool p.i,.bool p.g,.bool p.s] 44 v3 z3 r3 W9) (L9:Mb (X0 w0.heap.size) w0.heap.size gl #[.int .i64 lv0,.bool tg0] 82 v3 z3 r3 W9)
  (h:Res w0 a l.length cap (z.map (·.1)) (Xq w0.heap.size q) v3 z3 r3 W9 (pe.step E l c p t j) (.returned (.agg #[.int .i64 (lvR (pe.step E l c p t j)),.bool (tgR (pe.step E l c p t j))])) ww) (hq:w.heap.size<=q) (hq1:w.heap.size+1≠q) (hq2:gl≠q) (hq3:w.heap.size≠q) (hgl:w.heap.size+1<gl):
  RelEx w0 a cap M l E p i T v z r w gl ((ww.setCell ⟨gl,0,none⟩ (.int .i64 (lvR (pe.step E l c p t j)))).setCell ⟨gl,1,none⟩ (.bool (tgR (pe.step E l c p t j))))/\
  2*(l.length-atOf w0.heap.size ((ww.setCell ⟨gl,0,none⟩ (.int .i64 (lvR (pe.step E l c p t j)))).setCell ⟨gl,1,none⟩ (.bool (tgR (pe.step E l c p t j)))))+lvOf gl ((ww.setCell ⟨gl,0,none⟩ (.int .i64 (lvR (pe.step E l c p t j)))).setCell ⟨gl,1,none⟩ (.bool (tgR (pe.step E l c p t j))))<2*(l.length-j)+1/\Bk gl #[.int .i64 lv0,.bool tg0] 82 ww:=by
 subst hcc
 obtain⟨-,v5,z5,r5,s5,e5,m5⟩:=h
 obtain⟨g,rfl⟩:∃k,g=k+1:=⟨g-1,by omega⟩
 obtain⟨hw,A,y,o⟩:=way_next (z:=z5) hOk hM hb hs hgo hT hg m5 hzl
 have F5:=F9.goq s5 e5 hq hq1
 have P5:=P9.extq e5 hq3
 have L5:=L9.extq e5 hq2
 generalize hR:pe.step E l (kd l j) p t j=RR at*
 have F6:=F5.own L5 (by omega) (by omega) 0 (.int .i64 (lvR RR))
 have L6:=L5.set 0 (.int .i64 (lvR RR))
 have F7:=F6.own L6 (by omega) (by omega) 1 (.bool (tgR RR))
 have L7:=L6.set 1 (.bool (tgR RR))
 have P7:=(P5.oth (by omega:w.heap.size≠gl) 0 (.int .i64 (lvR RR))).oth (by omega:w.heap.size≠gl) 1 (.bool (tgR RR))
 refine⟨⟨_,_,_,v5,z5,r5,F7,P7,L7,hw⟩, ?_,L5.bk⟩
 rw[at_of F7.st,lv_of (lv:=lvR RR) (tg:=tgR RR) L7.bk]
 split
 ·omega
 ·next hne=>
  rcases o with h3|h3
  ·exact absurd h3 hne
  ·omega
set_option maxHeartbeats 6400000 in
theorem expr_step(hM:∀t∈l,t.s.size<=M)(hE:CallE w0 a cap l E i0)(hOk:∀p i,i<=l.length->Ok M l i (E p i))(p:Ps)(w:World)(h0:i0<=i+1)(hi:i<=l.length)(hl:l.length<=50000)(hc:tk.Lies w0.heap.size w0 a l)(hz:z.length+2*(l.length-i)<=200000)(hst:St w0 a l.length cap i v z r w):
  Calls Tryz.prog 50 #[.pointer (some ⟨w0.heap.size,0,none⟩),.agg #[.int .i64 p.l,.bool p.d,.bool p.i,.bool p.g,.bool p.s]] w (Res w0 a l.length cap (z.map (·.1)) (X0 w0.heap.size) v z r w (match first E l p i with| .bad j=> .bad j| .ok lv tg t j=>go E l p (l.length+1) lv tg t j)):=by
 obtain⟨W,hW⟩:∃W,W=(w.alloc (.cells #[.int .i64 p.l,.bool p.d,.bool p.i,.bool p.g,.bool p.s] 44)).alloc (.cells #[.int .i64 0,.bool false] 82):=⟨_,rfl⟩
 have hB:Below w.heap.size w W:=by rw[hW];exact((Below.refl _ _).alloc (Nat.le_refl _) _).alloc (by simp) _
 have hPb:Bk w.heap.size #[.int .i64 p.l,.bool p.d,.bool p.i,.bool p.g,.bool p.s] 44 W:=by rw[hW];exact(Bk.new _ _ _).alloc _
 have hRb:Bk (w.heap.size+1) #[.int .i64 0,.bool false] 82 W:=by
  rw[hW]
  have:=Bk.new (w.alloc (.cells #[.int .i64 p.l,.bool p.d,.bool p.i,.bool p.g,.bool p.s] 44)) #[.int .i64 0,.bool false] 82
  simpa using this
 have hlt:=hst.lt
 have P0:=hid (Mb.new (X:=X0 w0.heap.size) hst hPb (Nat.le_refl _) (by unfold X0;omega))
 have F0:=hid (show Fy w0 a l.length cap (X0 w0.heap.size) (w.heap.size+1) v z r w i v z r W from⟨hst.keep hB,Ext.of (Gr.quiet hB),Mb.new hst hRb (by omega) (by unfold X0;omega),by omega⟩)
 have HXB:=hid (show X0 w0.heap.size w0.heap.size from rfl)
 have HC:=hid hc
 have HL:=hid hl
 have HI:=hid hi
 have HZ:=hid hz
 have HLT:=hid hlt
 have HBW:=hid hB.size
 have HFI:=hid (first_any hE hOk p W h0 hi hl hc hz F0.st)
 have HFO:=hid (first_ok (p:=p) hOk hM (show l.length<=100000 by omega) hi)
 obtain⟨T,hT⟩:∃T:R,T=(match first E l p i with| .bad j=>R.bad j| .ok lv tg t j=>go E l p (l.length+1) lv tg t j):=⟨_,rfl⟩
 have HT:=hid hT
 rw[<-hT]
 have HMM:=hid hM
 have hzl:(z.map (·.1)).length=z.length:=List.length_map ..
 have HZL:=hid (show(z.map (·.1)).length+2*(l.length-i)<=200000 by rw[hzl];exact hz)
 obtain⟨p0,p1,p2,p3,p4⟩:=P0.bk.c5
 rw[hW]at p0 p1 p2 p3 p4
 clear hT hst hB hPb hRb hz hi hl hc hlt hM hzl
 go_enter Tryz.func50,Tryz.ntmps50
 go_wp2_with fail
 rw[<-hW]
 clear hW p0 p1 p2 p3 p4
 refine HFI.mono ?_
 rintro e w1 ⟨rfl,v1,z1,r1,s1,e1,m1⟩
 have hway:=way_of (E:=E) (p:=p) (T:=T) HFO.out m1 HT.out HZL.out
 obtain⟨W2,af⟩:∃W2,W2=w1.alloc (.cells #[.int .i64 (lvR (first E l p i)),.bool (tgR (first E l p i))] 82):=⟨_,rfl⟩
 have aj:Below w1.heap.size w1 W2:=by rw[af];exact(Below.refl _ _).alloc (Nat.le_refl _) _
 have f1:=F0.go s1 e1
 have F2:=hid (f1.quiet aj)
 have P2:=hid ((P0.ext e1).ext (Ext.of (Gr.quiet aj)))
 have L2:=hid (show Mb (X0 w0.heap.size) w0.heap.size w1.heap.size #[.int .i64 (lvR (first E l p i)),.bool (tgR (first E l p i))] 82 v1 z1 r1 W2 from Mb.new s1 (by rw[af];exact Bk.new _ _ _) (Nat.le_refl _) (by unfold X0;have:=s1.lt;omega))
 have HWAY:=hid hway
 have HGL:=hid (show w.heap.size+1<w1.heap.size from(f1.rb.bk.lt))
 obtain⟨gl,hgl⟩:∃gl,gl=w1.heap.size:=⟨_,rfl⟩
 rw[<-hgl]at L2 HGL
 clear s1 e1 m1 f1 aj hway
 go_wp2
 rw[<-af,<-hgl]
 clear af hgl
 go_loopw [7] (fun _ wr=>RelEx w0 a cap M l E p i T v z r w gl wr) (fun _ wr=>2*(l.length-atOf w0.heap.size wr)+lvOf gl wr)
 case atStart=>exact⟨_,_,_,_,_,_,F2.out,P2.out,L2.out,HWAY.out⟩
 case round=>
  obtain⟨G,O,j,v3,z3,r3,f3,p3,l3,way⟩:=hrel
  have F3:=hid f3
  have P3:=hid p3
  have L3:=hid l3
  have HAT:=hid (at_of f3.st)
  have HLV:=hid (lv_of l3.bk)
  cases way with
  |fault _ _ hT hj=>
   have HE:=hid hT
   clear f3 p3 l3 hT
   obtain⟨o0,o1⟩:=L3.bk.c2
   obtain⟨r0,r1⟩:=F3.rb.bk.c2
   have g0:=F3.rb.bk.f 0
   have g1:=F3.rb.bk.f 1
   go_wp2
   obtain⟨t0,t1⟩:=(F3.rb.bk.put2 (.int .i64 0) (.bool false)).c2
   rw[HE.out]
   exact bodyPost_ret (v:= .agg #[.int .i64 0,.bool false]) (by simp[results,Tryz.results50,go_sem,t0,t1]) rfl (F3.bad _ _ rfl)
  |on _ _ _ _ t g hs hm hT hg hz3=>
   have hjl:=hs.2.1
   have ax:=hs.2.2.1
   have hij:=hs.1
   have q1:(G==0)=false:=by rw[beq_eq_false_iff_ne];omega
   have q2:(G !=0)=true:=by simp;omega
   have q3:¬G=0:=by omega
   have HJ:=hid hjl
   have HIJ:=hid hij
   have HS:=hid hs
   have ac:=hid hm
   have am:=hid hT
   have HG:=hid hg
   have Q:=hid hz3
   have HNX:=hid (next_any wr f3.st HC.out (by have:=HL.out;omega) hjl)
   have hfk:=fld_k
   obtain⟨c,hcc⟩:∃c,kd l j=c:=⟨_,rfl⟩
   rw[hcc]at HNX
   have HCC:=hid hcc
   have HST:=hid (fun hgo=>go_stop (E:=E) (l:=l) (p:=p) (n:=g) (lv:=G) (tg:=O) (t:=t) (i:=j) hgo (by omega))
   rw[hcc]at HST
   clear f3 p3 l3 hs hm hT hg hz3 hcc hjl ax hij
   cases hft:ft (ctK c) (ctO c) p with
   |false=>
    have HFT:=hid (show fits (ctK c) (ctO c) p.l p.d p.i p.g p.s=false from hft)
    have HSTP:=hid (HST.out (by unfold goes;rw[hft];rfl))
    clear hft hE hOk h0
    obtain⟨o0,o1⟩:=L3.bk.c2
    go_wp2_with fail
    refine HNX.mono ?_
    rintro e w4 ⟨rfl,b4⟩
    have F4:=hid (F3.quiet b4)
    have P4:=hid (P3.ext (Ext.of (Gr.quiet b4)))
    have L4:=hid (L3.ext (Ext.of (Gr.quiet b4)))
    clear b4 o0 o1
    go_wp2_with fail
    refine(continued_any _ c _).mono ?_
    rintro e w5 ⟨u,rfl,b5,nr⟩
    obtain⟨ak,nk,ck,hu⟩:∃ak nk ck,u= .slice ak nk ck:=by
     rcases nr with ⟨-,h⟩|⟨-,q,-,h,-⟩
     ·exact⟨_,_,_,h⟩
     ·exact⟨_,_,_,h⟩
    subst hu
    have F5:=hid (F4.quiet b5)
    have P5:=hid (P4.ext (Ext.of (Gr.quiet b5)))
    have L5:=hid (L4.ext (Ext.of (Gr.quiet b5)))
    have S4:=hid F4.st
    have NR:=hid nr
    have aq:=hid b5
    clear b5 nr
    have P:=hid (Bk.new w5 #[.int .i64 (ctK c),.int .i64 (ctO c),.string ⟨#[]⟩,.string ⟨#[]⟩,.slice ak nk ck] 33)
    have B6:=hid (show Below w5.heap.size w5 (w5.alloc (.cells #[.int .i64 (ctK c),.int .i64 (ctO c),.string ⟨#[]⟩,.string ⟨#[]⟩,.slice ak nk ck] 33))from(Below.refl _ _).alloc (Nat.le_refl _) _)
    have F6:=hid (F5.quiet B6.out)
    have P6:=hid (P5.ext (Ext.of (Gr.quiet B6.out)))
    have L6:=hid (L5.ext (Ext.of (Gr.quiet B6.out)))
    have N6:=hid (show Mb (X0 w0.heap.size) w0.heap.size w5.heap.size _ _ v3 z3 r3 _ from Mb.new F5.st P.out (Nat.le_refl _) (by have:=F5.st.lt;unfold X0;omega))
    obtain⟨p0,p1,p2,p3,p4⟩:=P6.bk.c5
    obtain⟨n0,n1,n2,n3,n4⟩:=P.c5
    go_wp2_with fail
    clear p0 p1 p2 p3 p4 n0 n1 n2 n3 n4
    refine(_root_.Go.Proofs.YtebjmdpkobhcbaaGreatDoor.ps.impl_fits (ctK c) (ctO c) p.l ⟨#[]⟩ ⟨#[]⟩ ak nk ck p.d p.i p.g p.s _).mono ?_
    rw[HFT.out]
    rintro e w7 ⟨rfl,b7⟩
    have F7:=hid (F6.quiet b7)
    have P7:=hid (P6.ext (Ext.of (Gr.quiet b7)))
    have L7:=hid (L6.ext (Ext.of (Gr.quiet b7)))
    have N7:=hid (N6.ext (Ext.of (Gr.quiet b7)))
    have ad:=hid b7
    clear b7
    obtain⟨o0,o1⟩:=L7.bk.c2
    obtain⟨r0,r1⟩:=F7.rb.bk.c2
    have g0:=F7.rb.bk.f 0
    have g1:=F7.rb.bk.f 1
    go_wp2
    obtain⟨t0,t1⟩:=(F7.rb.bk.put2 (.int .i64 G) (.bool O)).c2
    rw[am.out,HSTP.out]
    exact bodyPost_ret (v:= .agg #[.int .i64 G,.bool O]) (by simp[results,Tryz.results50,go_sem,t0,t1]) rfl (F7.ok _ _ rfl ac.out)
   |true=>
    have HFT:=hid (show fits (ctK c) (ctO c) p.l p.d p.i p.g p.s=true from hft)
    have ai:¬ctK c=0:=fun h=>by have:=fits_level hft;rw[h]at this;simp[lv.levelOf]at this
    have HKN:=hid (show knC c=ctN c from if_neg ai)
    cases hmy:may c G O p with
    |false=>
     have HMY:=hid hmy
     have HSTP:=hid (HST.out (by unfold goes;rw[hft,hmy];rfl))
     clear hft hmy ai hE hOk h0
     obtain⟨o0,o1⟩:=L3.bk.c2
     go_wp2_with fail
     refine HNX.mono ?_
     rintro e w4 ⟨rfl,b4⟩
     have F4:=hid (F3.quiet b4)
     have P4:=hid (P3.ext (Ext.of (Gr.quiet b4)))
     have L4:=hid (L3.ext (Ext.of (Gr.quiet b4)))
     clear b4 o0 o1
     go_wp2_with fail
     refine(continued_any _ c _).mono ?_
     rintro e w5 ⟨u,rfl,b5,nr⟩
     obtain⟨ak,nk,ck,hu⟩:∃ak nk ck,u= .slice ak nk ck:=by
      rcases nr with ⟨-,h⟩|⟨-,q,-,h,-⟩
      ·exact⟨_,_,_,h⟩
      ·exact⟨_,_,_,h⟩
     subst hu
     have F5:=hid (F4.quiet b5)
     have P5:=hid (P4.ext (Ext.of (Gr.quiet b5)))
     have L5:=hid (L4.ext (Ext.of (Gr.quiet b5)))
     have S4:=hid F4.st
     have NR:=hid nr
     have aq:=hid b5
     clear b5 nr
     have P:=hid (Bk.new w5 #[.int .i64 (ctK c),.int .i64 (ctO c),.string ⟨#[]⟩,.string ⟨#[]⟩,.slice ak nk ck] 33)
     have B6:=hid (show Below w5.heap.size w5 (w5.alloc (.cells #[.int .i64 (ctK c),.int .i64 (ctO c),.string ⟨#[]⟩,.string ⟨#[]⟩,.slice ak nk ck] 33))from(Below.refl _ _).alloc (Nat.le_refl _) _)
     have F6:=hid (F5.quiet B6.out)
     have P6:=hid (P5.ext (Ext.of (Gr.quiet B6.out)))
     have L6:=hid (L5.ext (Ext.of (Gr.quiet B6.out)))
     have N6:=hid (show Mb (X0 w0.heap.size) w0.heap.size w5.heap.size _ _ v3 z3 r3 _ from Mb.new F5.st P.out (Nat.le_refl _) (by have:=F5.st.lt;unfold X0;omega))
     obtain⟨p0,p1,p2,p3,p4⟩:=P6.bk.c5
     obtain⟨n0,n1,n2,n3,n4⟩:=P.c5
     go_wp2_with fail
     clear p0 p1 p2 p3 p4 n0 n1 n2 n3 n4
     refine(_root_.Go.Proofs.YtebjmdpkobhcbaaGreatDoor.ps.impl_fits (ctK c) (ctO c) p.l ⟨#[]⟩ ⟨#[]⟩ ak nk ck p.d p.i p.g p.s _).mono ?_
     rw[HFT.out]
     rintro e w7 ⟨rfl,b7⟩
     have F7:=hid (F6.quiet b7)
     have P7:=hid (P6.ext (Ext.of (Gr.quiet b7)))
     have L7:=hid (L6.ext (Ext.of (Gr.quiet b7)))
     have N7:=hid (N6.ext (Ext.of (Gr.quiet b7)))
     have ad:=hid b7
     clear b7
     obtain⟨p0,p1,p2,p3,p4⟩:=P7.bk.c5
     obtain⟨n0,n1,n2,n3,n4⟩:=N7.bk.c5
     obtain⟨o0,o1⟩:=L7.bk.c2
     go_wp2_with fail
     clear p0 p1 p2 p3 p4 n0 n1 n2 n3 n4 o0 o1
     have hnk:nk=ctN c:=by
      rcases NR.out with ⟨h,-⟩|⟨-,q,-,h,-⟩
      ·exact absurd h (by rw[HKN.out];unfold ctN;(repeat' split)<;>decide)
      ·injection h with h1 h2 h3;rw[h2,HKN.out]
     refine(mbf_any G O c ak nk ck p hnk _).mono ?_
     rw[HMY.out]
     rintro e w8 ⟨rfl,b8⟩
     have F8:=hid (F7.quiet b8)
     have P8:=hid (P7.ext (Ext.of (Gr.quiet b8)))
     have L8:=hid (L7.ext (Ext.of (Gr.quiet b8)))
     have N8:=hid (N7.ext (Ext.of (Gr.quiet b8)))
     have ah:=hid b8
     clear b8
     obtain⟨o0,o1⟩:=L8.bk.c2
     obtain⟨r0,r1⟩:=F8.rb.bk.c2
     have g0:=F8.rb.bk.f 0
     have g1:=F8.rb.bk.f 1
     go_wp2
     obtain⟨t0,t1⟩:=(F8.rb.bk.put2 (.int .i64 G) (.bool O)).c2
     rw[am.out,HSTP.out]
     exact bodyPost_ret (v:= .agg #[.int .i64 G,.bool O]) (by simp[results,Tryz.results50,go_sem,t0,t1]) rfl (F8.ok _ _ rfl ac.out)
    |true=>
     have HMY:=hid hmy
     have HGO:=hid (show goes c G O p=true by unfold goes;rw[hft,hmy];rfl)
     clear hft hmy
     obtain⟨o0,o1⟩:=L3.bk.c2
     go_wp2_with fail
     refine HNX.mono ?_
     rintro e w4 ⟨rfl,b4⟩
     have F4:=hid (F3.quiet b4)
     have P4:=hid (P3.ext (Ext.of (Gr.quiet b4)))
     have L4:=hid (L3.ext (Ext.of (Gr.quiet b4)))
     clear b4 o0 o1
     go_wp2_with fail
     refine(continued_any _ c _).mono ?_
     rintro e w5 ⟨u,rfl,b5,nr⟩
     obtain⟨ak,nk,ck,hu⟩:∃ak nk ck,u= .slice ak nk ck:=by
      rcases nr with ⟨-,h⟩|⟨-,q,-,h,-⟩
      ·exact⟨_,_,_,h⟩
      ·exact⟨_,_,_,h⟩
     subst hu
     have F5:=hid (F4.quiet b5)
     have P5:=hid (P4.ext (Ext.of (Gr.quiet b5)))
     have L5:=hid (L4.ext (Ext.of (Gr.quiet b5)))
     have S4:=hid F4.st
     have NR:=hid nr
     have aq:=hid b5
     clear b5 nr
     have P:=hid (Bk.new w5 #[.int .i64 (ctK c),.int .i64 (ctO c),.string ⟨#[]⟩,.string ⟨#[]⟩,.slice ak nk ck] 33)
     have B6:=hid (show Below w5.heap.size w5 (w5.alloc (.cells #[.int .i64 (ctK c),.int .i64 (ctO c),.string ⟨#[]⟩,.string ⟨#[]⟩,.slice ak nk ck] 33))from(Below.refl _ _).alloc (Nat.le_refl _) _)
     have F6:=hid (F5.quiet B6.out)
     have P6:=hid (P5.ext (Ext.of (Gr.quiet B6.out)))
     have L6:=hid (L5.ext (Ext.of (Gr.quiet B6.out)))
     have N6:=hid (show Mb (X0 w0.heap.size) w0.heap.size w5.heap.size _ _ v3 z3 r3 _ from Mb.new F5.st P.out (Nat.le_refl _) (by have:=F5.st.lt;unfold X0;omega))
     obtain⟨p0,p1,p2,p3,p4⟩:=P6.bk.c5
     obtain⟨n0,n1,n2,n3,n4⟩:=P.c5
     go_wp2_with fail
     clear p0 p1 p2 p3 p4 n0 n1 n2 n3 n4
     refine(_root_.Go.Proofs.YtebjmdpkobhcbaaGreatDoor.ps.impl_fits (ctK c) (ctO c) p.l ⟨#[]⟩ ⟨#[]⟩ ak nk ck p.d p.i p.g p.s _).mono ?_
     rw[HFT.out]
     rintro e w7 ⟨rfl,b7⟩
     have F7:=hid (F6.quiet b7)
     have P7:=hid (P6.ext (Ext.of (Gr.quiet b7)))
     have L7:=hid (L6.ext (Ext.of (Gr.quiet b7)))
     have N7:=hid (N6.ext (Ext.of (Gr.quiet b7)))
     have ad:=hid b7
     clear b7
     obtain⟨p0,p1,p2,p3,p4⟩:=P7.bk.c5
     obtain⟨n0,n1,n2,n3,n4⟩:=N7.bk.c5
     obtain⟨o0,o1⟩:=L7.bk.c2
     go_wp2_with fail
     clear p0 p1 p2 p3 p4 n0 n1 n2 n3 n4 o0 o1
     have hnk:nk=ctN c:=by
      rcases NR.out with ⟨h,-⟩|⟨-,q,-,h,-⟩
      ·exact absurd h (by rw[HKN.out];unfold ctN;(repeat' split)<;>decide)
      ·injection h with h1 h2 h3;rw[h2,HKN.out]
     refine(mbf_any G O c ak nk ck p hnk _).mono ?_
     rw[HMY.out]
     rintro e w8 ⟨rfl,b8⟩
     have F8:=hid (F7.quiet b8)
     have P8:=hid (P7.ext (Ext.of (Gr.quiet b8)))
     have L8:=hid (L7.ext (Ext.of (Gr.quiet b8)))
     have N8:=hid (N7.ext (Ext.of (Gr.quiet b8)))
     have ah:=hid b8
     clear b8
     rcases NR.out with ⟨h,-⟩|⟨-,q,hq1,hq2,ib⟩
     ·exact absurd h (by rw[HKN.out];unfold ctN;(repeat' split)<;>decide)
     obtain⟨mm,hmm⟩:∃mm,ctN c=mm+1:=⟨ctN c-1,by unfold ctN;(repeat' split)<;>rfl⟩
     rw[HKN.out,hmm]at hq2 ib
     injection hq2 with hq2 hq3 hq4
     subst hq2;subst hq3;subst hq4
     have aa:=hid hmm
     have an:mm<=2:=by
      have:ctN c<=3:=by unfold ctN;(repeat' split)<;>decide
      omega
     have aw:=hid an
     have ae:=hid hq1
     have az:=hid ib.lt
     have ar:q<w8.heap.size:=Nat.lt_of_lt_of_le ib.lt (Nat.le_trans B6.size (Nat.le_trans ad.size ah.size))
     have ay:=hid ar
     have ag:IBlk w8 q (mm+1) (zs (mm+1)):=((ib.of_block (B6.block _ ib.lt)).of_block (ad.block _ (Nat.lt_of_lt_of_le ib.lt B6.size))).of_block (ah.block _ (Nat.lt_of_lt_of_le ib.lt (Nat.le_trans B6.size ad.size)))
     have au:=hid ag
     have ao:0<z3.length:=by
      have h2:=congrArg List.length ac.out
      simp only[List.length_map,List.length_append]at h2
      have:=HS.out.2.2.2.2.1
      omega
     have HROOT:=hid (fun W2 (s9:St w0 a l.length cap j v3 z3 r3 W2)=>root_any W2 s9 ao (by have:=Q.out;omega))
     obtain⟨ZV,hZV⟩:∃ZV,ZV=((z3.length:Int)-1):=⟨_,rfl⟩
     rw[<-hZV]at HROOT
     have HKS:=hid (show(zs (mm+1)).set 0 ZV=G2 (z.map (·.1)).length [t]++zs mm by
      have h1:=kid_set (z.map (·.1)).length [] t mm (by have:=HZL.out;have:=HS.out.2.2.2.1;have:=HL.out;have:=HS.out.1;have:=HJ.out;simp only[nd.sumL];omega)
      rw[G2_nil,List.nil_append,List.nil_append]at h1
      rw[<-h1,hZV]
      have h2:z3.length=(z.map (·.1)).length+(G1 (z.map (·.1)).length [t]).length:=by
       rw[G_one]
       have:=congrArg List.length ac.out
       simpa using this
      rw[h2]
      rfl)
     obtain⟨n0,n1,n2,n3,n4⟩:=N8.bk.c5
     have d0:=ag.at 0 (by simp[zs])
     have d1:=ag.frozen 0
     have hd:(zs (mm+1))[0]'(by simp[zs])=0:=by simp[zs]
     rw[hd]at d0
     have hmi:(0:Int)<((mm:Int)+1):=by omega
     have hmn:0<mm+1:=by omega
     clear ao hZV hq1 ar ib ag hnk ai hd hmm an
     go_wp2
     go_region_law (first|(go_simp;go_at_call 103;refine(HROOT.out _ (by first|exact F8.st|exact F8.st.drew)).mono ?_;rintro e w9 ⟨rfl,rfl⟩))
     all_goals
      clear n0 n1 n2 n3 n4 d0 d1
      have hqb:w0.heap.size<q:=by have:=F4.st.lt;have:=ae.out;omega
      have hqv:v3.ownBlock≠some q:=fun e=>F4.st.new (Nat.le_of_lt ae.out) e.symm
      have hqr:∀k,k<z3.length->r3 k≠q:=fun k hk=>by have:=F4.st.own.lt k hk;have:=ae.out;omega
      obtain⟨W9,U⟩:∃W9,W9=w8.drew.setCell ⟨q,0,none⟩ (.int .i64 ZV):=⟨_,rfl⟩
      have ap:St w0 a l.length cap j v3 z3 r3 W9:=by rw[U];exact F8.st.drew.oset (by omega) (fun e=>hqv e.symm) hqr (Nat.le_of_lt hqb) 0 _
      have ab:Ext (Xq w0.heap.size q) v3 z3 r3 w8 v3 z3 r3 W9:=by rw[U];exact Ext.of (Gr.set (X:=Xq w0.heap.size q) (Gr.quiet ((Below.refl _ w8).drew)) (.inl (show Xq w0.heap.size q q from Or.inr rfl)) 0 _)
      have hws:w.heap.size+1<q:=Nat.lt_trans F4.rb.bk.lt ae.out
      have HWS:=hid hws
      have HGQ:=hid (show gl<q from Nat.lt_trans L4.bk.lt ae.out)
      have HNQ:=hid (show w5.heap.size≠q by have:=az.out;omega)
      have F9:=hid (F8.goq ap ab (by omega) (by omega))
      have P9:=hid (P8.extq ab (by omega))
      have L9:=hid (L8.extq ab (by have:=HGQ.out;omega))
      have N9:=hid (N8.extq ab HNQ.out)
      have V:=hid (show q<W9.heap.size by rw[U];simpa using ay.out)
      have X9:=hid (show Rw w0.heap.size q (.slice (some ⟨q,0,none⟩) (mm+1) (mm+1)) (G2 (z.map (·.1)).length [t]++zs mm) v3 z3 r3 W9 from .inr ⟨.inr ⟨mm+1,by rw[<-HKS.out];simp[zs],by rw[<-HKS.out,U];exact(au.of_block (w':=w8.drew) rfl).set 0 ZV,by omega,by have:=aw.out;unfold maxLen;omega⟩,V.out,hqr,hqv,hqb⟩)
      first|rw[<-U]|rw[show(w8.setCell ⟨q,0,none⟩ (.int .i64 ZV)).drew=w8.drew.setCell ⟨q,0,none⟩ (.int .i64 ZV)from rfl,<-U]
      clear U ap ab hws hqb hqv hqr
      have Z:=hid (show z3.map (·.1)=z.map (·.1)++G1 (z.map (·.1)).length [t] by rw[G_one];exact ac.out)
      have HNEXT:=hid (fun(ww:World) (h:Res w0 a l.length cap (z.map (·.1)) (Xq w0.heap.size q) v3 z3 r3 W9 (pe.step E l c p t j) (.returned (.agg #[.int .i64 (lvR (pe.step E l c p t j)),.bool (tgR (pe.step E l c p t j))])) ww)=>expr_next hOk HMM.out (show l.length<=100000 by have:=HL.out;omega) HCC.out HS.out HGO.out am.out HG.out HZL.out F9.out P9.out L9.out h (by have:=HWS.out;omega) (by have:=HWS.out;omega) (by have:=HGQ.out;omega) (by have:=HWS.out;omega) HGL.out)
      rcases cls c with h|h|h|h|h|h|⟨h,-⟩
      ·have e1:ctK c=15:=(asg_c h).1
       have e2:ctO c=c:=(asg_c h).2.1
       have e3:mm=1:=by have:=aa.out;rw[(asg_c h).2.2]at this;omega
       have HR:=hid (show pe.step E l c p t j=rd2 E 15 c p t (behind l c j) by unfold pe.step;rw[if_pos h])
       have hlt:=kd_lt (l:=l) (i:=j) (by rw[HCC.out];intro hh;rw[hh]at h;exact absurd h (by decide))
       have C:=X9.out
       rw[show mm=1 from e3]at C
       rw[show rdC (.pointer (some ⟨w0.heap.size,0,none⟩)) c= .func (.func 157) #[.pointer (some ⟨w0.heap.size,0,none⟩)] #[]from if_pos h]
       have A:Mb (X0 w0.heap.size) w0.heap.size w5.heap.size #[.int .i64 15,.int .i64 c,.string ⟨#[]⟩,.string ⟨#[]⟩,.slice (some ⟨q,0,none⟩) 2 2] 33 v3 z3 r3 W9:=by have h:=N9.out;rw[e1,e2,e3]at h;exact h
       obtain⟨n0,n1,n2,n3,n4⟩:=A.bk.c5
       obtain⟨p0,p1,p2,p3,p4⟩:=P9.bk.c5
       obtain⟨o0,o1⟩:=L9.bk.c2
       have F:=L9.bk.f 0
       have D:=L9.bk.f 1
       clear A
       go_wp2_with fail
       clear n0 n1 n2 n3 n4 p0 p1 p2 p3 p4 o0 o1 F D
       refine(binary_any hE hOk 15 c ⟨#[]⟩ rfl t (by have:=HIJ.out;omega) (z.map (·.1)) (.slice (some ⟨q,0,none⟩) 2 2) q p _ hlt HL.out HC.out Q.out F9.st V.out C Z.out).mono ?_
       rintro e J o
       rw[<-HR.out]at o
       obtain⟨rfl,K⟩:=id o
       obtain⟨H,N,y⟩:=HNEXT.out J o
       obtain⟨o0,o1⟩:=y.c2
       have F:=y.f 0
       have D:=y.f 1
       clear o K
       go_wp2
       go_roundw
       case rel=>exact H
       case measure=>rw[HAT.out,HLV.out,if_neg q3];exact N
      ·have e1:ctK c=10:=(inc_c h).1
       have e2:ctO c=c:=(inc_c h).2.1
       have e3:mm=0:=by have:=aa.out;rw[(inc_c h).2.2]at this;omega
       have hA:isAsg c=false:=by rcases inc_vals h with rfl|rfl<;>rfl
       have HR:=hid (show pe.step E l c p t j=fin 10 c ⟨#[]⟩ [t] (j+1) by unfold pe.step;rw[if_neg (by rw[hA];decide),if_pos h])
       have hlt:=kd_lt (l:=l) (i:=j) (by rw[HCC.out];intro hh;rw[hh]at h;exact absurd h (by decide))
       have C:=X9.out
       rw[show mm=0 from e3]at C
       have al:Rw w0.heap.size q (.slice (some ⟨q,0,none⟩) 1 1) (G2 (z.map (·.1)).length [t]) v3 z3 r3 W9:=by simpa [zs]using C
       rw[show rdC (.pointer (some ⟨w0.heap.size,0,none⟩)) c= .func (.func 158) #[.pointer (some ⟨w0.heap.size,0,none⟩)] #[]from by unfold rdC;rw[if_neg (by rw[hA];decide),if_pos h]]
       have A:Mb (X0 w0.heap.size) w0.heap.size w5.heap.size #[.int .i64 10,.int .i64 c,.string ⟨#[]⟩,.string ⟨#[]⟩,.slice (some ⟨q,0,none⟩) 1 1] 33 v3 z3 r3 W9:=by have h:=N9.out;rw[e1,e2,e3]at h;exact h
       obtain⟨n0,n1,n2,n3,n4⟩:=A.bk.c5
       obtain⟨p0,p1,p2,p3,p4⟩:=P9.bk.c5
       obtain⟨o0,o1⟩:=L9.bk.c2
       have F:=L9.bk.f 0
       have D:=L9.bk.f 1
       clear A
       go_wp2_with fail
       clear n0 n1 n2 n3 n4 p0 p1 p2 p3 p4 o0 o1 F D
       refine(post_any c ⟨#[]⟩ rfl (z.map (·.1)) [t] (.slice (some ⟨q,0,none⟩) 1 1) q p _ hlt HL.out HC.out Q.out F9.st V.out al Z.out).mono ?_
       rintro e J o
       rw[<-HR.out]at o
       obtain⟨rfl,K⟩:=id o
       obtain⟨H,N,y⟩:=HNEXT.out J o
       obtain⟨o0,o1⟩:=y.c2
       have F:=y.f 0
       have D:=y.f 1
       clear o K
       go_wp2
       go_roundw
       case rel=>exact H
       case measure=>rw[HAT.out,HLV.out,if_neg q3];exact N
      ·subst h
       have e1:ctK 65=14:=rfl
       have e2:ctO 65=0:=rfl
       have e3:mm=2:=by have:=aa.out;rw[show ctN 65=3 from rfl]at this;omega
       have HR:=hid (show pe.step E l 65 p t j=pe.cond E l p t j from rfl)
       have hlt:=kd_lt (l:=l) (i:=j) (by rw[HCC.out];decide)
       have C:=X9.out
       rw[show mm=2 from e3]at C
       rw[show rdC (.pointer (some ⟨w0.heap.size,0,none⟩)) 65= .func (.func 159) #[.pointer (some ⟨w0.heap.size,0,none⟩)] #[]from rfl]
       have A:Mb (X0 w0.heap.size) w0.heap.size w5.heap.size #[.int .i64 14,.int .i64 0,.string ⟨#[]⟩,.string ⟨#[]⟩,.slice (some ⟨q,0,none⟩) 3 3] 33 v3 z3 r3 W9:=by have h:=N9.out;rw[e1,e2,e3]at h;exact h
       obtain⟨n0,n1,n2,n3,n4⟩:=A.bk.c5
       obtain⟨p0,p1,p2,p3,p4⟩:=P9.bk.c5
       obtain⟨o0,o1⟩:=L9.bk.c2
       have F:=L9.bk.f 0
       have D:=L9.bk.f 1
       clear A
       go_wp2_with fail
       clear n0 n1 n2 n3 n4 p0 p1 p2 p3 p4 o0 o1 F D
       refine(cond_any hE hOk ⟨#[]⟩ rfl t (by have:=HIJ.out;omega) (z.map (·.1)) (.slice (some ⟨q,0,none⟩) 3 3) q p _ hlt HL.out HC.out Q.out F9.st V.out C Z.out).mono ?_
       rintro e J o
       rw[<-HR.out]at o
       obtain⟨rfl,K⟩:=id o
       obtain⟨H,N,y⟩:=HNEXT.out J o
       obtain⟨o0,o1⟩:=y.c2
       have F:=y.f 0
       have D:=y.f 1
       clear o K
       go_wp2
       go_roundw
       case rel=>exact H
       case measure=>rw[HAT.out,HLV.out,if_neg q3];exact N
      ·subst h
       have e1:ctK 24=13:=rfl
       have e2:ctO 24=0:=rfl
       have e3:mm=0:=by have:=aa.out;rw[show ctN 24=1 from rfl]at this;omega
       have HR:=hid (show pe.step E l 24 p t j=inn l [t] j from rfl)
       have C:=X9.out
       rw[show mm=0 from e3]at C
       have al:Rw w0.heap.size q (.slice (some ⟨q,0,none⟩) 1 1) (G2 (z.map (·.1)).length [t]) v3 z3 r3 W9:=by simpa [zs]using C
       rw[show rdC (.pointer (some ⟨w0.heap.size,0,none⟩)) 24= .func (.func 160) #[.pointer (some ⟨w0.heap.size,0,none⟩)] #[]from rfl]
       have A:Mb (X0 w0.heap.size) w0.heap.size w5.heap.size #[.int .i64 13,.int .i64 0,.string ⟨#[]⟩,.string ⟨#[]⟩,.slice (some ⟨q,0,none⟩) 1 1] 33 v3 z3 r3 W9:=by have h:=N9.out;rw[e1,e2,e3]at h;exact h
       obtain⟨n0,n1,n2,n3,n4⟩:=A.bk.c5
       obtain⟨p0,p1,p2,p3,p4⟩:=P9.bk.c5
       obtain⟨o0,o1⟩:=L9.bk.c2
       have F:=L9.bk.f 0
       have D:=L9.bk.f 1
       clear A
       go_wp2_with fail
       clear n0 n1 n2 n3 n4 p0 p1 p2 p3 p4 o0 o1 F D
       refine(in_any ⟨#[]⟩ (z.map (·.1)) [t] (.slice (some ⟨q,0,none⟩) 1 1) q p _ HJ.out HL.out HC.out Q.out F9.st V.out al Z.out).mono ?_
       rintro e J o
       rw[<-HR.out]at o
       obtain⟨rfl,K⟩:=id o
       obtain⟨H,N,y⟩:=HNEXT.out J o
       obtain⟨o0,o1⟩:=y.c2
       have F:=y.f 0
       have D:=y.f 1
       clear o K
       go_wp2
       go_roundw
       case rel=>exact H
       case measure=>rw[HAT.out,HLV.out,if_neg q3];exact N
      ·have e1:ctK c=12:=(beg_c h).1
       have e2:ctO c=99:=(beg_c h).2.1
       have e3:mm=1:=by have:=aa.out;rw[(beg_c h).2.2.1]at this;omega
       have hvs:=beg_vals h
       have hA:isAsg c=false:=by rcases hvs with rfl|rfl|rfl|rfl|rfl|rfl|rfl<;>rfl
       have hI:isInc c=false:=by rcases hvs with rfl|rfl|rfl|rfl|rfl|rfl|rfl<;>rfl
       have HR:=hid (show pe.step E l c p t j=rd2 E 12 99 p t j by unfold pe.step;rw[if_neg (by rw[hA];decide),if_neg (by rw[hI];decide),if_neg (by omega),if_neg (by omega),if_pos h])
       have C:=X9.out
       rw[show mm=1 from e3]at C
       rw[show rdC (.pointer (some ⟨w0.heap.size,0,none⟩)) c= .func (.func 162) #[.pointer (some ⟨w0.heap.size,0,none⟩)] #[]from by unfold rdC;rw[if_neg (by rw[hA];decide),if_neg (by rw[hI];decide),if_neg (by omega),if_neg (by omega),if_pos h]]
       have A:Mb (X0 w0.heap.size) w0.heap.size w5.heap.size #[.int .i64 12,.int .i64 99,.string ⟨#[]⟩,.string ⟨#[]⟩,.slice (some ⟨q,0,none⟩) 2 2] 33 v3 z3 r3 W9:=by have h:=N9.out;rw[e1,e2,e3]at h;exact h
       obtain⟨n0,n1,n2,n3,n4⟩:=A.bk.c5
       obtain⟨p0,p1,p2,p3,p4⟩:=P9.bk.c5
       obtain⟨o0,o1⟩:=L9.bk.c2
       have F:=L9.bk.f 0
       have D:=L9.bk.f 1
       clear A
       go_wp2_with fail
       clear n0 n1 n2 n3 n4 p0 p1 p2 p3 p4 o0 o1 F D
       refine(cat_any hE hOk 12 99 ⟨#[]⟩ rfl t (by have:=HIJ.out;omega) (z.map (·.1)) (.slice (some ⟨q,0,none⟩) 2 2) q p _ HJ.out HL.out HC.out Q.out F9.st V.out C Z.out).mono ?_
       rintro e J o
       rw[<-HR.out]at o
       obtain⟨rfl,K⟩:=id o
       obtain⟨H,N,y⟩:=HNEXT.out J o
       obtain⟨o0,o1⟩:=y.c2
       have F:=y.f 0
       have D:=y.f 1
       clear o K
       go_wp2
       go_roundw
       case rel=>exact H
       case measure=>rw[HAT.out,HLV.out,if_neg q3];exact N
      ·have e1:ctK c=12:=(op_c h).1
       have e2:ctO c=c:=(op_c h).2.1
       have e3:mm=1:=by have:=aa.out;rw[(op_c h).2.2]at this;omega
       have hvs:=op_vals h
       have hA:isAsg c=false:=by rcases hvs with rfl|rfl|rfl|rfl|rfl|rfl|rfl|rfl|rfl|rfl|rfl|rfl|rfl|rfl|rfl|rfl|rfl<;>rfl
       have hI:isInc c=false:=by rcases hvs with rfl|rfl|rfl|rfl|rfl|rfl|rfl|rfl|rfl|rfl|rfl|rfl|rfl|rfl|rfl|rfl|rfl<;>rfl
       have hBg:operand.begins c=false:=by rcases hvs with rfl|rfl|rfl|rfl|rfl|rfl|rfl|rfl|rfl|rfl|rfl|rfl|rfl|rfl|rfl|rfl|rfl<;>rfl
       have HR:=hid (show pe.step E l c p t j=rd2 E 12 c p t (behind l c j) by unfold pe.step;rw[if_neg (by rw[hA];decide),if_neg (by rw[hI];decide),if_neg (by omega),if_neg (by omega),if_neg (by rw[hBg];decide)])
       have hlt:=kd_lt (l:=l) (i:=j) (by rw[HCC.out];omega)
       have C:=X9.out
       rw[show mm=1 from e3]at C
       rw[show rdC (.pointer (some ⟨w0.heap.size,0,none⟩)) c= .func (.func 157) #[.pointer (some ⟨w0.heap.size,0,none⟩)] #[]from by unfold rdC;rw[if_neg (by rw[hA];decide),if_neg (by rw[hI];decide),if_neg (by omega),if_neg (by omega),if_neg (by rw[hBg];decide),if_pos h]]
       have A:Mb (X0 w0.heap.size) w0.heap.size w5.heap.size #[.int .i64 12,.int .i64 c,.string ⟨#[]⟩,.string ⟨#[]⟩,.slice (some ⟨q,0,none⟩) 2 2] 33 v3 z3 r3 W9:=by have h:=N9.out;rw[e1,e2,e3]at h;exact h
       obtain⟨n0,n1,n2,n3,n4⟩:=A.bk.c5
       obtain⟨p0,p1,p2,p3,p4⟩:=P9.bk.c5
       obtain⟨o0,o1⟩:=L9.bk.c2
       have F:=L9.bk.f 0
       have D:=L9.bk.f 1
       clear A
       go_wp2_with fail
       clear n0 n1 n2 n3 n4 p0 p1 p2 p3 p4 o0 o1 F D
       refine(binary_any hE hOk 12 c ⟨#[]⟩ rfl t (by have:=HIJ.out;omega) (z.map (·.1)) (.slice (some ⟨q,0,none⟩) 2 2) q p _ hlt HL.out HC.out Q.out F9.st V.out C Z.out).mono ?_
       rintro e J o
       rw[<-HR.out]at o
       obtain⟨rfl,K⟩:=id o
       obtain⟨H,N,y⟩:=HNEXT.out J o
       obtain⟨o0,o1⟩:=y.c2
       have F:=y.f 0
       have D:=y.f 1
       clear o K
       go_wp2
       go_roundw
       case rel=>exact H
       case measure=>rw[HAT.out,HLV.out,if_neg q3];exact N
      ·exact absurd (show ft (ctK c) (ctO c) p=true from HFT.out) (by rw[h];unfold ft fits;rw[show lv.levelOf 0 (ctO c)=0 from by simp[lv.levelOf]];simp)
theorem expr_all(hM:∀t∈l,t.s.size<=M)(hl:l.length<=50000)(hc:tk.Lies w0.heap.size w0 a l):∀f i0,l.length-i0<f->CallE w0 a cap l (ex l f) i0:=by
 intro f
 induction f with
 |zero=>intro i0 h;omega
 |succ f ih=>
  intro i0 h p i v z r w o hi hz hst
  have hE:CallE w0 a cap l (ex l f) (i+1):=by
   rcases Nat.lt_or_ge i l.length with h1|h1
   ·exact ih (i+1) (by omega)
   ·intro p' i' v' z' r' w' h2 h3;omega
  exact expr_step hM hE (ex_ok hM (by omega) f) p w (Nat.le_refl _) hi hl hc hz hst
end
end Go.Proofs.YtebjmdpkobhcbaaGreatDoor.pr
