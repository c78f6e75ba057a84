/- A part. -/
import Derived.Test.YtebjmdpkobhcbaaGreatDoorRKindB
import Derived.Test.YtebjmdpkobhcbaaGreatDoorRGLx
import Derived.Test.YtebjmdpkobhcbaaGreatDoorRNdEq
import Derived.Deep.QuietTactic
import Derived.Deep.RegionHeld3
namespace Go.Proofs.YtebjmdpkobhcbaaGreatDoor.rt
open Go.ChangeShapes Go.WideShapes Go.ChangeAt Go.RowKit
open chars (inR)
open spell (Held nameOk)
open toks (isBuiltin)
open tok (tokOk below_box)
set_option linter.unusedVariables false
set_option maxRecDepth 20000
set_option linter.unusedSimpArgs false
def isNode(k:Int):Bool:=isExpr k||k==16||isStmt k||isItem k||k==45
def isBin(op:Int):Bool:=op==60||op==57||op==58||op==59||op==55||op==56||op==99||op==63||op==48||op==47||op==50||op==62||op==49||op==67||op==46||op==45||op==44
def opOk(k op:Int):Bool:=
 if k=9\/k=10 then op==51||op==52
 else if k=11 then op==55||op==56||op==61
 else if k=12 then isBin op
 else if k=15 then op==54||inR op 38 43
 else if k=21 then op==0||op==1
 else if k=42 then inR op 1 3
 else if k=43 then op==1||op==3
 else op==0
def textOk(k:Int)(s:ByteArray):Bool:=
 if k=1\/k=5\/k=7\/k=13\/k=27\/k=32\/k=44 then nameOk s
 else if k=8 then isBuiltin s
 else if k=2 then tokOk 3 s
 else if k=3 then tokOk 4 s
 else if k=4 then tokOk 5 s
 else if k=34 then tokOk 2 s
 else s.toList.isEmpty
def otherOk(k:Int)(t:ByteArray):Bool:=
 if k=21 then t.toList.isEmpty||t.toList==[62]||t.toList==[62,62]||t.toList==[124]
 else if k=32 then nameOk t
 else t.toList.isEmpty
def lim0(k op:Int)(t:ByteArray):Int×Int:=
 if k=6\/k=9\/k=10\/k=11\/k=20\/k=32\/k=40\/k=41 then(1,1)
 else if k=12\/k=15\/k=29\/k=30 then(2,2)
 else if k=14 then(3,3)
 else if k=31 then(4,4)
 else if k=5\/k=13 then(1,6)
 else if k=7\/k=8\/k=27 then(0,6)
 else if k=21 then(if t.toList.isEmpty=true then(op,6)else(op+1,7))
 else if k=23\/k=24 then(0,1)
 else if k=28 then(2,3)
 else if k=42 then(if op=3 then(2,2)else(1,1))
 else if k=43 then(if op=3 then(3,3)else(2,2))
 else if k=44 then(1,7)
 else(0,0)
def lim(mx k op:Int)(t:ByteArray):Int×Int:=if k=33\/k=45 then(0,mx)else lim0 k op t
def many(k op:Int)(t:ByteArray)(n:Int):Bool:=decide ((lim n k op t).1<=n)&&decide (n<=(lim n k op t).2)
def fieldsOk(k op:Int)(s t:ByteArray)(n:Int):Bool:=isNode k&&opOk k op&&textOk k s&&otherOk k t&&many k op t n
structure Bx(w W:World)(k op:Int)(s t:ByteArray)(v:Value):Prop where
 c0:W.cell? ⟨w.heap.size,0,none⟩=some (.int .i64 k)
 c1:W.cell? ⟨w.heap.size,1,none⟩=some (.int .i64 op)
 c2:W.cell? ⟨w.heap.size,2,none⟩=some (.string s)
 c3:W.cell? ⟨w.heap.size,3,none⟩=some (.string t)
 c4:W.cell? ⟨w.heap.size,4,none⟩=some v
 b:Below w.heap.size w W
 lt:w.heap.size<W.heap.size
theorem Bx.start(w:World)(k op:Int)(s t:ByteArray)(v:Value)(ty:TypeId):Bx w (w.alloc (.cells #[.int .i64 k,.int .i64 op,.string s,.string t,v] ty)) k op s t v:=by
 have hh:=heap_alloc_new w (.cells #[.int .i64 k,.int .i64 op,.string s,.string t,v] ty)
 refine⟨?_, ?_, ?_, ?_, ?_,below_box _ _,by simp⟩
 ·rw[cell_of_row _ _ 0 _ _ _ hh];rfl
 ·rw[cell_of_row _ _ 1 _ _ _ hh];rfl
 ·rw[cell_of_row _ _ 2 _ _ _ hh];rfl
 ·rw[cell_of_row _ _ 3 _ _ _ hh];rfl
 ·rw[cell_of_row _ _ 4 _ _ _ hh];rfl
theorem Bx.keep{w W w1:World}{k op:Int}{s t:ByteArray}{v:Value}(h:Bx w W k op s t v)(hb:Below W.heap.size W w1):Bx w w1 k op s t v:=
 ⟨(hb.cell (p:=⟨w.heap.size,0,none⟩) h.lt).trans h.c0,(hb.cell (p:=⟨w.heap.size,1,none⟩) h.lt).trans h.c1,(hb.cell (p:=⟨w.heap.size,2,none⟩) h.lt).trans h.c2,(hb.cell (p:=⟨w.heap.size,3,none⟩) h.lt).trans h.c3,(hb.cell (p:=⟨w.heap.size,4,none⟩) h.lt).trans h.c4,h.b.trans (hb.mono (Nat.le_of_lt h.lt)),Nat.lt_of_lt_of_le h.lt hb.size⟩
theorem spec_asg(op:Int)(w:World):Calls Tryz.prog 174 #[.int .i64 op] w fun e w'=>e= .returned (.bool (op==54||inR op 38 43))/\w=w':=by
 go_enter Tryz.func174,Tryz.ntmps174
 go_wp2_with (go_at_call 95;refine(chars.spec_in _ _ _ _).mono ?_;rintro e w' ⟨rfl,rfl⟩)
 all_goals
  go_ret
  exact⟨congrArg (fun b=>Ending.returned (Value.bool b)) (by simp_all),rfl⟩
end Go.Proofs.YtebjmdpkobhcbaaGreatDoor.rt
