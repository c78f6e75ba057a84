/- A part of the proof; no condition of its own. -/
import Derived.Test.YtebjmdpkobhcbaaGreatDoorDNdEq
import Derived.Test.YtebjmdpkobhcbaaGreatDoorDLevel
namespace Go.Proofs.YtebjmdpkobhcbaaGreatDoor.lv
open Go.ChangeShapes Go.WideShapes Go.ChangeAt Go.RowKit
set_option linter.unusedVariables false
theorem box_below(w:World)(o:Obj):Below w.heap.size w (w.alloc o):=(Below.refl w.heap.size w).alloc (Nat.le_refl _) o
structure Bx(w W:World)(k op:Int)(s t:ByteArray)(v:Value):Prop where
 c0:W.cell? ⟨w.heap.size,0,none⟩=some (.int .i64 k)
 c1:W.cell? ⟨w.heap.size,1,none⟩=some (.int .i64 op)
 c2:W.cell? ⟨w.heap.size,2,none⟩=some (.string s)
 c3:W.cell? ⟨w.heap.size,3,none⟩=some (.string t)
 c4:W.cell? ⟨w.heap.size,4,none⟩=some v
 b:Below w.heap.size w W
 lt:w.heap.size<W.heap.size
theorem Bx.start(w:World)(k op:Int)(s t:ByteArray)(v:Value)(ty:TypeId):Bx w (w.alloc (.cells #[.int .i64 k,.int .i64 op,.string s,.string t,v] ty)) k op s t v:=by
 have hh:=heap_alloc_new w (.cells #[.int .i64 k,.int .i64 op,.string s,.string t,v] ty)
 refine⟨?_, ?_, ?_, ?_, ?_,box_below _ _,by simp⟩
 ·rw[cell_of_row _ _ 0 _ _ _ hh];rfl
 ·rw[cell_of_row _ _ 1 _ _ _ hh];rfl
 ·rw[cell_of_row _ _ 2 _ _ _ hh];rfl
 ·rw[cell_of_row _ _ 3 _ _ _ hh];rfl
 ·rw[cell_of_row _ _ 4 _ _ _ hh];rfl
theorem Bx.keep{w W w1:World}{k op:Int}{s t:ByteArray}{v:Value}(h:Bx w W k op s t v)(hb:Below W.heap.size W w1):Bx w w1 k op s t v:=
 ⟨(hb.cell (p:=⟨w.heap.size,0,none⟩) h.lt).trans h.c0,(hb.cell (p:=⟨w.heap.size,1,none⟩) h.lt).trans h.c1,(hb.cell (p:=⟨w.heap.size,2,none⟩) h.lt).trans h.c2,(hb.cell (p:=⟨w.heap.size,3,none⟩) h.lt).trans h.c3,(hb.cell (p:=⟨w.heap.size,4,none⟩) h.lt).trans h.c4,h.b.trans (hb.mono (Nat.le_of_lt h.lt)),Nat.lt_of_lt_of_le h.lt hb.size⟩
def levelOf(k op:Int):Int:=
 if k=15 then 1
 else if k=14 then 2
 else if k=13 then 5
 else if k=12 then opLevel op
 else if k=11 then 11
 else if k=9∨k=10 then 13
 else if k=6 then 14
 else if k=1∨k=2∨k=3∨k=4∨k=5∨k=7∨k=8 then 15
 else 0
set_option maxHeartbeats 1600000 in
theorem impl_level(k op:Int)(s t:ByteArray)(a:Option Addr)(n cap:Nat)(w:World):Calls Tryz.prog 88 #[.agg #[.int .i64 k,.int .i64 op,.string s,.string t,.slice a n cap]] w fun e w'=>e= .returned (.int .i64 (levelOf k op))∧Below w.heap.size w w':=by
 go_enter Tryz.func88,Tryz.ntmps88
 go_wp2_with (go_at_call 12;refine(impl_op _ _).mono ?_;rintro e w1 ⟨rfl,b1⟩)
 all_goals
  go_ret
  exact⟨congrArg (fun b=>Ending.returned (Value.int .i64 b)) (by simp_all[levelOf]),by first|exact box_below _ _|exact(box_below w _).trans ((by assumption:Below _ _ _).mono (by simp))⟩
end Go.Proofs.YtebjmdpkobhcbaaGreatDoor.lv
