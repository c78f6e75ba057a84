/-

-/
import Derived.Test.YtnoagleifffkcaaGreatDoorRows
import Derived.Test.YtnoagleifffkcaaGreatDoorZoGBs
import Derived.WalkKit
import Derived.ProofKit
import Derived.OpenShut
import Derived.ShutString
import Derived.ChangeOld
import Derived.Below
import Derived.WalkSpells
import Derived.WalkLawsBesides
import Derived.Laws.EntriesVeiled
import Derived.Deep.WholeRow
import Derived.Test.YtnoagleifffkcaaGreatDoorZoNdEq
namespace Go.Proofs.YtnoagleifffkcaaGreatDoor.lv
open Lib (hid)
open Go.ChangeShapes Go.WideShapes Go.ChangeAt Go.RowKit
set_option linter.unusedVariables false
def has:Nat→Int→Bool
 |0,op=>op==44
 |1,op=>op==45
 |2,op=>op==67||op==46
 |3,op=>op==63||op==48||op==47||op==50||op==62||op==49
 |4,op=>op==99
 |5,op=>op==55||op==56
 |6,op=>op==57||op==58||op==59
 |7,op=>op==60
 |_,_=>false
def opLevel(op:Int):Int:=
 if has 0 op=true then 3 else
 if has 1 op=true then 4 else
 if has 2 op=true then 6 else
 if has 3 op=true then 7 else
 if has 4 op=true then 8 else
 if has 5 op=true then 9 else
 if has 6 op=true then 10 else
 if has 7 op=true then 12 else
 0
theorem lev_range(op:Int):0≤opLevel op∧opLevel op≤12:=by
 unfold opLevel
 repeat' split
 all_goals decide
theorem m0(op:Int)(w:World):Calls Tryz.prog 219 #[.int .i64 op] w fun e w'=>e= .returned (.bool (has 0 op))∧w=w':=by
 go_enter Tryz.func219,Tryz.ntmps219
 go_wp2
 all_goals
  go_ret
  exact⟨congrArg (fun b=>Ending.returned (Value.bool b)) (by simp_all[has]),rfl⟩
theorem m1(op:Int)(w:World):Calls Tryz.prog 220 #[.int .i64 op] w fun e w'=>e= .returned (.bool (has 1 op))∧w=w':=by
 go_enter Tryz.func220,Tryz.ntmps220
 go_wp2
 all_goals
  go_ret
  exact⟨congrArg (fun b=>Ending.returned (Value.bool b)) (by simp_all[has]),rfl⟩
theorem m2(op:Int)(w:World):Calls Tryz.prog 221 #[.int .i64 op] w fun e w'=>e= .returned (.bool (has 2 op))∧w=w':=by
 go_enter Tryz.func221,Tryz.ntmps221
 go_wp2
 all_goals
  go_ret
  exact⟨congrArg (fun b=>Ending.returned (Value.bool b)) (by simp_all[has]),rfl⟩
theorem m3(op:Int)(w:World):Calls Tryz.prog 222 #[.int .i64 op] w fun e w'=>e= .returned (.bool (has 3 op))∧w=w':=by
 go_enter Tryz.func222,Tryz.ntmps222
 go_wp2
 all_goals
  go_ret
  exact⟨congrArg (fun b=>Ending.returned (Value.bool b)) (by simp_all[has]),rfl⟩
theorem m4(op:Int)(w:World):Calls Tryz.prog 223 #[.int .i64 op] w fun e w'=>e= .returned (.bool (has 4 op))∧w=w':=by
 go_enter Tryz.func223,Tryz.ntmps223
 go_wp2
 all_goals
  go_ret
  exact⟨congrArg (fun b=>Ending.returned (Value.bool b)) (by simp_all[has]),rfl⟩
theorem m5(op:Int)(w:World):Calls Tryz.prog 224 #[.int .i64 op] w fun e w'=>e= .returned (.bool (has 5 op))∧w=w':=by
 go_enter Tryz.func224,Tryz.ntmps224
 go_wp2
 all_goals
  go_ret
  exact⟨congrArg (fun b=>Ending.returned (Value.bool b)) (by simp_all[has]),rfl⟩
theorem m6(op:Int)(w:World):Calls Tryz.prog 225 #[.int .i64 op] w fun e w'=>e= .returned (.bool (has 6 op))∧w=w':=by
 go_enter Tryz.func225,Tryz.ntmps225
 go_wp2
 all_goals
  go_ret
  exact⟨congrArg (fun b=>Ending.returned (Value.bool b)) (by simp_all[has]),rfl⟩
theorem m7(op:Int)(w:World):Calls Tryz.prog 226 #[.int .i64 op] w fun e w'=>e= .returned (.bool (has 7 op))∧w=w':=by
 go_enter Tryz.func226,Tryz.ntmps226
 go_wp2
 all_goals
  go_ret
  exact⟨congrArg (fun b=>Ending.returned (Value.bool b)) (by simp_all[has]),rfl⟩
theorem table(w:World):Calls Tryz.prog 204 #[] w fun e w'=>e= .returned (.agg #[.int .i64 3,.func (.func 219) #[] #[],.int .i64 4,.func (.func 220) #[] #[],.int .i64 6,.func (.func 221) #[] #[],.int .i64 7,.func (.func 222) #[] #[],.int .i64 8,.func (.func 223) #[] #[],.int .i64 9,.func (.func 224) #[] #[],.int .i64 10,.func (.func 225) #[] #[],.int .i64 12,.func (.func 226) #[] #[]])∧Below w.heap.size w w':=by
 go_enter Tryz.func204,Tryz.ntmps204
 go_wp2
 have hb:Below w.heap.size w (w.alloc (.cells #[.int .i64 3,.func (.func 219) #[] #[],.int .i64 4,.func (.func 220) #[] #[],.int .i64 6,.func (.func 221) #[] #[],.int .i64 7,.func (.func 222) #[] #[],.int .i64 8,.func (.func 223) #[] #[],.int .i64 9,.func (.func 224) #[] #[],.int .i64 10,.func (.func 225) #[] #[],.int .i64 12,.func (.func 226) #[] #[]] 154)):=(Below.refl _ _).alloc (Nat.le_refl _) _
 have hh:=heap_alloc_new w (.cells #[.int .i64 3,.func (.func 219) #[] #[],.int .i64 4,.func (.func 220) #[] #[],.int .i64 6,.func (.func 221) #[] #[],.int .i64 7,.func (.func 222) #[] #[],.int .i64 8,.func (.func 223) #[] #[],.int .i64 9,.func (.func 224) #[] #[],.int .i64 10,.func (.func 225) #[] #[],.int .i64 12,.func (.func 226) #[] #[]] 154)
 generalize hW:w.alloc (.cells #[.int .i64 3,.func (.func 219) #[] #[],.int .i64 4,.func (.func 220) #[] #[],.int .i64 6,.func (.func 221) #[] #[],.int .i64 7,.func (.func 222) #[] #[],.int .i64 8,.func (.func 223) #[] #[],.int .i64 9,.func (.func 224) #[] #[],.int .i64 10,.func (.func 225) #[] #[],.int .i64 12,.func (.func 226) #[] #[]] 154)=W at hb hh⊢
 clear hW
 have r0:=cell_of_row W w.heap.size 0 _ _ _ hh
 simp at r0
 have r1:=cell_of_row W w.heap.size 1 _ _ _ hh
 simp at r1
 have r2:=cell_of_row W w.heap.size 2 _ _ _ hh
 simp at r2
 have r3:=cell_of_row W w.heap.size 3 _ _ _ hh
 simp at r3
 have r4:=cell_of_row W w.heap.size 4 _ _ _ hh
 simp at r4
 have r5:=cell_of_row W w.heap.size 5 _ _ _ hh
 simp at r5
 have r6:=cell_of_row W w.heap.size 6 _ _ _ hh
 simp at r6
 have r7:=cell_of_row W w.heap.size 7 _ _ _ hh
 simp at r7
 have r8:=cell_of_row W w.heap.size 8 _ _ _ hh
 simp at r8
 have r9:=cell_of_row W w.heap.size 9 _ _ _ hh
 simp at r9
 have I:=cell_of_row W w.heap.size 10 _ _ _ hh
 simp at I
 have J:=cell_of_row W w.heap.size 11 _ _ _ hh
 simp at J
 have G:=cell_of_row W w.heap.size 12 _ _ _ hh
 simp at G
 have F:=cell_of_row W w.heap.size 13 _ _ _ hh
 simp at F
 have y:=cell_of_row W w.heap.size 14 _ _ _ hh
 simp at y
 have j:=cell_of_row W w.heap.size 15 _ _ _ hh
 simp at j
 exact bodyPost_ret (v:= .agg #[.int .i64 3,.func (.func 219) #[] #[],.int .i64 4,.func (.func 220) #[] #[],.int .i64 6,.func (.func 221) #[] #[],.int .i64 7,.func (.func 222) #[] #[],.int .i64 8,.func (.func 223) #[] #[],.int .i64 9,.func (.func 224) #[] #[],.int .i64 10,.func (.func 225) #[] #[],.int .i64 12,.func (.func 226) #[] #[]]) (by simp[results,Tryz.results204,go_sem,r0,r1,r2,r3,r4,r5,r6,r7,r8,r9,I,J,G,F,y,j]) rfl ⟨rfl,hb⟩
theorem ix0(w:World):(Instr.index 154 (.agg #[.int .i64 3,.func (.func 219) #[] #[],.int .i64 4,.func (.func 220) #[] #[],.int .i64 6,.func (.func 221) #[] #[],.int .i64 7,.func (.func 222) #[] #[],.int .i64 8,.func (.func 223) #[] #[],.int .i64 9,.func (.func 224) #[] #[],.int .i64 10,.func (.func 225) #[] #[],.int .i64 12,.func (.func 226) #[] #[]]) (.int .i64 0)).run Tryz.prog w= .ok (.agg #[.int .i64 3,.func (.func 219) #[] #[]]) w:=by kernel_rfl
theorem ix1(w:World):(Instr.index 154 (.agg #[.int .i64 3,.func (.func 219) #[] #[],.int .i64 4,.func (.func 220) #[] #[],.int .i64 6,.func (.func 221) #[] #[],.int .i64 7,.func (.func 222) #[] #[],.int .i64 8,.func (.func 223) #[] #[],.int .i64 9,.func (.func 224) #[] #[],.int .i64 10,.func (.func 225) #[] #[],.int .i64 12,.func (.func 226) #[] #[]]) (.int .i64 1)).run Tryz.prog w= .ok (.agg #[.int .i64 4,.func (.func 220) #[] #[]]) w:=by kernel_rfl
theorem ix2(w:World):(Instr.index 154 (.agg #[.int .i64 3,.func (.func 219) #[] #[],.int .i64 4,.func (.func 220) #[] #[],.int .i64 6,.func (.func 221) #[] #[],.int .i64 7,.func (.func 222) #[] #[],.int .i64 8,.func (.func 223) #[] #[],.int .i64 9,.func (.func 224) #[] #[],.int .i64 10,.func (.func 225) #[] #[],.int .i64 12,.func (.func 226) #[] #[]]) (.int .i64 2)).run Tryz.prog w= .ok (.agg #[.int .i64 6,.func (.func 221) #[] #[]]) w:=by kernel_rfl
theorem ix3(w:World):(Instr.index 154 (.agg #[.int .i64 3,.func (.func 219) #[] #[],.int .i64 4,.func (.func 220) #[] #[],.int .i64 6,.func (.func 221) #[] #[],.int .i64 7,.func (.func 222) #[] #[],.int .i64 8,.func (.func 223) #[] #[],.int .i64 9,.func (.func 224) #[] #[],.int .i64 10,.func (.func 225) #[] #[],.int .i64 12,.func (.func 226) #[] #[]]) (.int .i64 3)).run Tryz.prog w= .ok (.agg #[.int .i64 7,.func (.func 222) #[] #[]]) w:=by kernel_rfl
theorem ix4(w:World):(Instr.index 154 (.agg #[.int .i64 3,.func (.func 219) #[] #[],.int .i64 4,.func (.func 220) #[] #[],.int .i64 6,.func (.func 221) #[] #[],.int .i64 7,.func (.func 222) #[] #[],.int .i64 8,.func (.func 223) #[] #[],.int .i64 9,.func (.func 224) #[] #[],.int .i64 10,.func (.func 225) #[] #[],.int .i64 12,.func (.func 226) #[] #[]]) (.int .i64 4)).run Tryz.prog w= .ok (.agg #[.int .i64 8,.func (.func 223) #[] #[]]) w:=by kernel_rfl
theorem ix5(w:World):(Instr.index 154 (.agg #[.int .i64 3,.func (.func 219) #[] #[],.int .i64 4,.func (.func 220) #[] #[],.int .i64 6,.func (.func 221) #[] #[],.int .i64 7,.func (.func 222) #[] #[],.int .i64 8,.func (.func 223) #[] #[],.int .i64 9,.func (.func 224) #[] #[],.int .i64 10,.func (.func 225) #[] #[],.int .i64 12,.func (.func 226) #[] #[]]) (.int .i64 5)).run Tryz.prog w= .ok (.agg #[.int .i64 9,.func (.func 224) #[] #[]]) w:=by kernel_rfl
theorem ix6(w:World):(Instr.index 154 (.agg #[.int .i64 3,.func (.func 219) #[] #[],.int .i64 4,.func (.func 220) #[] #[],.int .i64 6,.func (.func 221) #[] #[],.int .i64 7,.func (.func 222) #[] #[],.int .i64 8,.func (.func 223) #[] #[],.int .i64 9,.func (.func 224) #[] #[],.int .i64 10,.func (.func 225) #[] #[],.int .i64 12,.func (.func 226) #[] #[]]) (.int .i64 6)).run Tryz.prog w= .ok (.agg #[.int .i64 10,.func (.func 225) #[] #[]]) w:=by kernel_rfl
theorem ix7(w:World):(Instr.index 154 (.agg #[.int .i64 3,.func (.func 219) #[] #[],.int .i64 4,.func (.func 220) #[] #[],.int .i64 6,.func (.func 221) #[] #[],.int .i64 7,.func (.func 222) #[] #[],.int .i64 8,.func (.func 223) #[] #[],.int .i64 9,.func (.func 224) #[] #[],.int .i64 10,.func (.func 225) #[] #[],.int .i64 12,.func (.func 226) #[] #[]]) (.int .i64 7)).run Tryz.prog w= .ok (.agg #[.int .i64 12,.func (.func 226) #[] #[]]) w:=by kernel_rfl
def RelLev(B:Nat)(W:World)(op:Int)(i:Value)(wr:World):Prop:=
 ∃K:Int,0≤K∧K≤8∧i= .int .i64 K∧Below B W wr∧∀j:Nat,(j:Int)<K→has j op=false
set_option maxHeartbeats 1600000 in
theorem impl_op(op:Int)(w:World):Calls Tryz.prog 140 #[.int .i64 op] w fun e w'=>e= .returned (.int .i64 (opLevel op))∧Below w.heap.size w w':=by
 go_enter Tryz.func140,Tryz.ntmps140
 go_wp2_with fail
 refine(table _).mono ?_
 rintro e w1 ⟨rfl,b1⟩
 go_wp2
 go_loopw [6] (fun i wr=>RelLev w.heap.size w op i wr) (fun i _=>8-(intOf i).toNat)
 case atStart=>exact⟨0,by decide,by decide,rfl,b1,fun j hj=>by omega⟩
 case round=>
  obtain⟨K,y,hK,rfl,hbel,hno⟩:=hrel
  have HB:=hid hbel
  clear hbel b1
  obtain rfl|rfl|rfl|rfl|rfl|rfl|rfl|rfl|rfl:K=0∨K=1∨K=2∨K=3∨K=4∨K=5∨K=6∨K=7∨K=8:=by omega
  all_goals clear y hK
  ·cases h:has 0 op
   ·have HN:=hid (show∀j:Nat,(j:Int)<1→has j op=false from fun j hj=>by
     rcases Nat.lt_or_ge j 0 with h1|h1
     ·exact hno j (by omega)
     ·rw[show j=0 by omega];exact h)
    clear hno
    have IX:=ix0 wr
    go_wp2_with (refine(m0 op _).mono ?_;rw[h];rintro e w' ⟨rfl,rfl⟩)
    go_roundw
    case rel=>exact⟨1,by decide,by decide,by go_num,HB.alloc HB.size _,HN.out⟩
    case measure=>simp[intOf]
   ·have HE:=hid (show opLevel op=3 by unfold opLevel;rw[if_pos h])
    clear hno
    have IX:=ix0 wr
    go_wp2_with (refine(m0 op _).mono ?_;rw[h];rintro e w' ⟨rfl,rfl⟩)
    go_ret
    exact⟨by rw[HE.out];rfl,HB.alloc HB.size _⟩
  ·cases h:has 1 op
   all_goals have n0:=hno 0 (by decide)
   ·have HN:=hid (show∀j:Nat,(j:Int)<2→has j op=false from fun j hj=>by
     rcases Nat.lt_or_ge j 1 with h1|h1
     ·exact hno j (by omega)
     ·rw[show j=1 by omega];exact h)
    clear hno
    have IX:=ix1 wr
    go_wp2_with (refine(m1 op _).mono ?_;rw[h];rintro e w' ⟨rfl,rfl⟩)
    go_roundw
    case rel=>exact⟨2,by decide,by decide,by go_num,HB.alloc HB.size _,HN.out⟩
    case measure=>simp[intOf]
   ·have HE:=hid (show opLevel op=4 by unfold opLevel;rw[if_neg (by rw[n0];decide),if_pos h])
    clear hno
    have IX:=ix1 wr
    go_wp2_with (refine(m1 op _).mono ?_;rw[h];rintro e w' ⟨rfl,rfl⟩)
    go_ret
    exact⟨by rw[HE.out];rfl,HB.alloc HB.size _⟩
  ·cases h:has 2 op
   all_goals have n0:=hno 0 (by decide)
   all_goals have n1:=hno 1 (by decide)
   ·have HN:=hid (show∀j:Nat,(j:Int)<3→has j op=false from fun j hj=>by
     rcases Nat.lt_or_ge j 2 with h1|h1
     ·exact hno j (by omega)
     ·rw[show j=2 by omega];exact h)
    clear hno
    have IX:=ix2 wr
    go_wp2_with (refine(m2 op _).mono ?_;rw[h];rintro e w' ⟨rfl,rfl⟩)
    go_roundw
    case rel=>exact⟨3,by decide,by decide,by go_num,HB.alloc HB.size _,HN.out⟩
    case measure=>simp[intOf]
   ·have HE:=hid (show opLevel op=6 by unfold opLevel;rw[if_neg (by rw[n0];decide),if_neg (by rw[n1];decide),if_pos h])
    clear hno
    have IX:=ix2 wr
    go_wp2_with (refine(m2 op _).mono ?_;rw[h];rintro e w' ⟨rfl,rfl⟩)
    go_ret
    exact⟨by rw[HE.out];rfl,HB.alloc HB.size _⟩
  ·cases h:has 3 op
   all_goals have n0:=hno 0 (by decide)
   all_goals have n1:=hno 1 (by decide)
   all_goals have n2:=hno 2 (by decide)
   ·have HN:=hid (show∀j:Nat,(j:Int)<4→has j op=false from fun j hj=>by
     rcases Nat.lt_or_ge j 3 with h1|h1
     ·exact hno j (by omega)
     ·rw[show j=3 by omega];exact h)
    clear hno
    have IX:=ix3 wr
    go_wp2_with (refine(m3 op _).mono ?_;rw[h];rintro e w' ⟨rfl,rfl⟩)
    go_roundw
    case rel=>exact⟨4,by decide,by decide,by go_num,HB.alloc HB.size _,HN.out⟩
    case measure=>simp[intOf]
   ·have HE:=hid (show opLevel op=7 by unfold opLevel;rw[if_neg (by rw[n0];decide),if_neg (by rw[n1];decide),if_neg (by rw[n2];decide),if_pos h])
    clear hno
    have IX:=ix3 wr
    go_wp2_with (refine(m3 op _).mono ?_;rw[h];rintro e w' ⟨rfl,rfl⟩)
    go_ret
    exact⟨by rw[HE.out];rfl,HB.alloc HB.size _⟩
  ·cases h:has 4 op
   all_goals have n0:=hno 0 (by decide)
   all_goals have n1:=hno 1 (by decide)
   all_goals have n2:=hno 2 (by decide)
   all_goals have n3:=hno 3 (by decide)
   ·have HN:=hid (show∀j:Nat,(j:Int)<5→has j op=false from fun j hj=>by
     rcases Nat.lt_or_ge j 4 with h1|h1
     ·exact hno j (by omega)
     ·rw[show j=4 by omega];exact h)
    clear hno
    have IX:=ix4 wr
    go_wp2_with (refine(m4 op _).mono ?_;rw[h];rintro e w' ⟨rfl,rfl⟩)
    go_roundw
    case rel=>exact⟨5,by decide,by decide,by go_num,HB.alloc HB.size _,HN.out⟩
    case measure=>simp[intOf]
   ·have HE:=hid (show opLevel op=8 by unfold opLevel;rw[if_neg (by rw[n0];decide),if_neg (by rw[n1];decide),if_neg (by rw[n2];decide),if_neg (by rw[n3];decide),if_pos h])
    clear hno
    have IX:=ix4 wr
    go_wp2_with (refine(m4 op _).mono ?_;rw[h];rintro e w' ⟨rfl,rfl⟩)
    go_ret
    exact⟨by rw[HE.out];rfl,HB.alloc HB.size _⟩
  ·cases h:has 5 op
   all_goals have n0:=hno 0 (by decide)
   all_goals have n1:=hno 1 (by decide)
   all_goals have n2:=hno 2 (by decide)
   all_goals have n3:=hno 3 (by decide)
   all_goals have n4:=hno 4 (by decide)
   ·have HN:=hid (show∀j:Nat,(j:Int)<6→has j op=false from fun j hj=>by
     rcases Nat.lt_or_ge j 5 with h1|h1
     ·exact hno j (by omega)
     ·rw[show j=5 by omega];exact h)
    clear hno
    have IX:=ix5 wr
    go_wp2_with (refine(m5 op _).mono ?_;rw[h];rintro e w' ⟨rfl,rfl⟩)
    go_roundw
    case rel=>exact⟨6,by decide,by decide,by go_num,HB.alloc HB.size _,HN.out⟩
    case measure=>simp[intOf]
   ·have HE:=hid (show opLevel op=9 by unfold opLevel;rw[if_neg (by rw[n0];decide),if_neg (by rw[n1];decide),if_neg (by rw[n2];decide),if_neg (by rw[n3];decide),if_neg (by rw[n4];decide),if_pos h])
    clear hno
    have IX:=ix5 wr
    go_wp2_with (refine(m5 op _).mono ?_;rw[h];rintro e w' ⟨rfl,rfl⟩)
    go_ret
    exact⟨by rw[HE.out];rfl,HB.alloc HB.size _⟩
  ·cases h:has 6 op
   all_goals have n0:=hno 0 (by decide)
   all_goals have n1:=hno 1 (by decide)
   all_goals have n2:=hno 2 (by decide)
   all_goals have n3:=hno 3 (by decide)
   all_goals have n4:=hno 4 (by decide)
   all_goals have n5:=hno 5 (by decide)
   ·have HN:=hid (show∀j:Nat,(j:Int)<7→has j op=false from fun j hj=>by
     rcases Nat.lt_or_ge j 6 with h1|h1
     ·exact hno j (by omega)
     ·rw[show j=6 by omega];exact h)
    clear hno
    have IX:=ix6 wr
    go_wp2_with (refine(m6 op _).mono ?_;rw[h];rintro e w' ⟨rfl,rfl⟩)
    go_roundw
    case rel=>exact⟨7,by decide,by decide,by go_num,HB.alloc HB.size _,HN.out⟩
    case measure=>simp[intOf]
   ·have HE:=hid (show opLevel op=10 by unfold opLevel;rw[if_neg (by rw[n0];decide),if_neg (by rw[n1];decide),if_neg (by rw[n2];decide),if_neg (by rw[n3];decide),if_neg (by rw[n4];decide),if_neg (by rw[n5];decide),if_pos h])
    clear hno
    have IX:=ix6 wr
    go_wp2_with (refine(m6 op _).mono ?_;rw[h];rintro e w' ⟨rfl,rfl⟩)
    go_ret
    exact⟨by rw[HE.out];rfl,HB.alloc HB.size _⟩
  ·cases h:has 7 op
   all_goals have n0:=hno 0 (by decide)
   all_goals have n1:=hno 1 (by decide)
   all_goals have n2:=hno 2 (by decide)
   all_goals have n3:=hno 3 (by decide)
   all_goals have n4:=hno 4 (by decide)
   all_goals have n5:=hno 5 (by decide)
   all_goals have n6:=hno 6 (by decide)
   ·have HN:=hid (show∀j:Nat,(j:Int)<8→has j op=false from fun j hj=>by
     rcases Nat.lt_or_ge j 7 with h1|h1
     ·exact hno j (by omega)
     ·rw[show j=7 by omega];exact h)
    clear hno
    have IX:=ix7 wr
    go_wp2_with (refine(m7 op _).mono ?_;rw[h];rintro e w' ⟨rfl,rfl⟩)
    go_roundw
    case rel=>exact⟨8,by decide,by decide,by go_num,HB.alloc HB.size _,HN.out⟩
    case measure=>simp[intOf]
   ·have HE:=hid (show opLevel op=12 by unfold opLevel;rw[if_neg (by rw[n0];decide),if_neg (by rw[n1];decide),if_neg (by rw[n2];decide),if_neg (by rw[n3];decide),if_neg (by rw[n4];decide),if_neg (by rw[n5];decide),if_neg (by rw[n6];decide),if_pos h])
    clear hno
    have IX:=ix7 wr
    go_wp2_with (refine(m7 op _).mono ?_;rw[h];rintro e w' ⟨rfl,rfl⟩)
    go_ret
    exact⟨by rw[HE.out];rfl,HB.alloc HB.size _⟩
  ·have HE:=hid (show opLevel op=0 by unfold opLevel;rw[if_neg (by rw[hno 0 (by decide)];decide),if_neg (by rw[hno 1 (by decide)];decide),if_neg (by rw[hno 2 (by decide)];decide),if_neg (by rw[hno 3 (by decide)];decide),if_neg (by rw[hno 4 (by decide)];decide),if_neg (by rw[hno 5 (by decide)];decide),if_neg (by rw[hno 6 (by decide)];decide),if_neg (by rw[hno 7 (by decide)];decide)])
   clear hno
   go_wp2
   go_ret
   exact⟨by rw[HE.out];rfl,HB.out⟩
end Go.Proofs.YtnoagleifffkcaaGreatDoor.lv

namespace Go.Proofs.YtnoagleifffkcaaGreatDoor.lv
open Go.ChangeShapes Go.WideShapes Go.ChangeAt Go.RowKit
set_option linter.unusedVariables false
theorem box_below(w:World)(o:Obj):Below w.heap.size w (w.alloc o):=(Below.refl w.heap.size w).alloc (Nat.le_refl _) o
structure Bx(w W:World)(k op:Int)(s t:ByteArray)(v:Value):Prop where
 c0:W.cell? ⟨w.heap.size,0,none⟩=some (.int .i64 k)
 c1:W.cell? ⟨w.heap.size,1,none⟩=some (.int .i64 op)
 c2:W.cell? ⟨w.heap.size,2,none⟩=some (.string s)
 c3:W.cell? ⟨w.heap.size,3,none⟩=some (.string t)
 c4:W.cell? ⟨w.heap.size,4,none⟩=some v
 b:Below w.heap.size w W
 lt:w.heap.size<W.heap.size
theorem Bx.start(w:World)(k op:Int)(s t:ByteArray)(v:Value)(ty:TypeId):Bx w (w.alloc (.cells #[.int .i64 k,.int .i64 op,.string s,.string t,v] ty)) k op s t v:=by
 have hh:=heap_alloc_new w (.cells #[.int .i64 k,.int .i64 op,.string s,.string t,v] ty)
 refine⟨?_, ?_, ?_, ?_, ?_,box_below _ _,by simp⟩
 ·rw[cell_of_row _ _ 0 _ _ _ hh];rfl
 ·rw[cell_of_row _ _ 1 _ _ _ hh];rfl
 ·rw[cell_of_row _ _ 2 _ _ _ hh];rfl
 ·rw[cell_of_row _ _ 3 _ _ _ hh];rfl
 ·rw[cell_of_row _ _ 4 _ _ _ hh];rfl
theorem Bx.keep{w W w1:World}{k op:Int}{s t:ByteArray}{v:Value}(h:Bx w W k op s t v)(hb:Below W.heap.size W w1):Bx w w1 k op s t v:=
 ⟨(hb.cell (p:=⟨w.heap.size,0,none⟩) h.lt).trans h.c0,(hb.cell (p:=⟨w.heap.size,1,none⟩) h.lt).trans h.c1,(hb.cell (p:=⟨w.heap.size,2,none⟩) h.lt).trans h.c2,(hb.cell (p:=⟨w.heap.size,3,none⟩) h.lt).trans h.c3,(hb.cell (p:=⟨w.heap.size,4,none⟩) h.lt).trans h.c4,h.b.trans (hb.mono (Nat.le_of_lt h.lt)),Nat.lt_of_lt_of_le h.lt hb.size⟩
def levelOf(k op:Int):Int:=
 if k=15 then 1
 else if k=14 then 2
 else if k=13 then 5
 else if k=12 then opLevel op
 else if k=11 then 11
 else if k=9∨k=10 then 13
 else if k=6 then 14
 else if k=1∨k=2∨k=3∨k=4∨k=5∨k=7∨k=8 then 15
 else 0
set_option maxHeartbeats 1600000 in
theorem impl_level(k op:Int)(s t:ByteArray)(a:Option Addr)(n cap:Nat)(w:World):Calls Tryz.prog 90 #[.agg #[.int .i64 k,.int .i64 op,.string s,.string t,.slice a n cap]] w fun e w'=>e= .returned (.int .i64 (levelOf k op))∧Below w.heap.size w w':=by
 go_enter Tryz.func90,Tryz.ntmps90
 go_wp2_with (go_at_call 140;refine(impl_op _ _).mono ?_;rintro e w1 ⟨rfl,b1⟩)
 all_goals
  go_ret
  exact⟨congrArg (fun b=>Ending.returned (Value.int .i64 b)) (by simp_all[levelOf]),by first|exact box_below _ _|exact(box_below w _).trans ((by assumption:Below _ _ _).mono (by simp))⟩
end Go.Proofs.YtnoagleifffkcaaGreatDoor.lv
