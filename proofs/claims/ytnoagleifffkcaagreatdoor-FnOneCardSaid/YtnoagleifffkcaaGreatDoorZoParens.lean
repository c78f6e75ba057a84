/-

-/
import Derived.Test.YtnoagleifffkcaaGreatDoorZoTk
namespace Go.Proofs.YtnoagleifffkcaaGreatDoor.pb
open Go.ChangeShapes Go.WideShapes Go.ChangeAt Go.RowKit
open tk
set_option linter.unusedVariables false
def pk(l:List Tk)(I:Nat):Int:=if I=0 then 0 else(l.getD (I-1) default).k
def one(k p:Int):Nat:=if k=32∧¬p=7∧¬p=8 then 1 else 0
def pc(l:List Tk):Nat→Nat
 |0=>0
 |I+1=>pc l I+one (l.getD I default).k (pk l I)
theorem one_no{k p:Int}(h:¬k=32):one k p=0:=if_neg fun e=>h e.1
theorem one_f{k:Int}:one k 7=0:=if_neg fun e=>e.2.1 rfl
theorem one_b{k:Int}:one k 8=0:=if_neg fun e=>e.2.2 rfl
theorem one_yes{p:Int}(h1:¬p=7)(h2:¬p=8):one 32 p=1:=if_pos ⟨rfl,h1,h2⟩
def RelSp(w:World)(l:List Tk)(n i:Value)(wr:World):Prop:=
 ∃I:Nat,I≤l.length∧i= .int .i64 (I:Int)∧n= .int .i64 (pc l I:Int)∧Below w.heap.size w wr
def RelIp(w:World)(l:List Tk)(n p i:Value)(wr:World):Prop:=
 ∃I:Nat,I≤l.length∧i= .int .i64 (I:Int)∧n= .int .i64 (pc l I:Int)∧p= .int .i64 (pk l I)∧Below w.heap.size w wr
end Go.Proofs.YtnoagleifffkcaaGreatDoor.pb
