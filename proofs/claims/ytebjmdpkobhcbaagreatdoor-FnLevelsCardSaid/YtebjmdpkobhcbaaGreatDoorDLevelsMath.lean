/- A part of the proof; no condition of its own. -/
import Derived.Test.YtebjmdpkobhcbaaGreatDoorDGPj
import Derived.Test.YtebjmdpkobhcbaaGreatDoorDOpSpell
namespace Go.Proofs.YtebjmdpkobhcbaaGreatDoor.lawLevels
open nd (Nd)
open pe (readF)
open lv (opLevel opSpell)
set_option maxRecDepth 100000
def opsL:List Int:=[60,57,58,59,55,56,63,47,49,67,46,45,44]
def s1(a b:Int):ByteArray:=((((⟨#[120,32]⟩:ByteArray)++opSpell a)++⟨#[32,121,32]⟩)++opSpell b)++⟨#[32,122]⟩
def s2(a b:Int):ByteArray:=((((⟨#[40,120,32]⟩:ByteArray)++opSpell a)++⟨#[32,121,41,32]⟩)++opSpell b)++⟨#[32,122]⟩
def s3(a b:Int):ByteArray:=((((⟨#[120,32]⟩:ByteArray)++opSpell a)++⟨#[32,40,121,32]⟩)++opSpell b)++⟨#[32,122,41]⟩
def small(t:List Nd):Bool:=decide (t.length≤10)&&t.all fun n=>decide (n.kids.length≤10)
def same(x y:Int):Bool:=x==y&&(x==7||x==6)
def first(x y a:Int):Bool:=decide (y<x)||(x==y&&a !=60)
def right(a b:Int):Bool:=
 decide ((s1 a b).size≤1000)&&(decide ((s2 a b).size≤1000)&&(decide ((s3 a b).size≤1000)&&(decide ((opSpell a).size≤1000)&&
 (small (readF (s1 a b)).t&&(small (readF (s2 a b)).t&&(small (readF (s3 a b)).t&&
 (if same (opLevel a) (opLevel b)=true then decide ((readF (s1 a b)).k=3∧(readF (s1 a b)).a=5+((opSpell a).size:Int))&&(readF (s1 a b)).t.length==0
 else decide ((readF (s1 a b)).k=0)&&((readF (s1 a b)).t.length==5&&
  (if first (opLevel a) (opLevel b) a=true then decide ((readF (s1 a b)).t=(readF (s2 a b)).t)&& !decide ((readF (s1 a b)).t=(readF (s3 a b)).t)
  else decide ((readF (s1 a b)).t=(readF (s3 a b)).t)&& !decide ((readF (s1 a b)).t=(readF (s2 a b)).t))))))))))
theorem row60:(opsL.all fun b=>right 60 b)=true:=by decide+kernel
theorem row57:(opsL.all fun b=>right 57 b)=true:=by decide+kernel
theorem row58:(opsL.all fun b=>right 58 b)=true:=by decide+kernel
theorem row59:(opsL.all fun b=>right 59 b)=true:=by decide+kernel
theorem row55:(opsL.all fun b=>right 55 b)=true:=by decide+kernel
theorem row56:(opsL.all fun b=>right 56 b)=true:=by decide+kernel
theorem row63:(opsL.all fun b=>right 63 b)=true:=by decide+kernel
theorem row47:(opsL.all fun b=>right 47 b)=true:=by decide+kernel
theorem row49:(opsL.all fun b=>right 49 b)=true:=by decide+kernel
theorem row67:(opsL.all fun b=>right 67 b)=true:=by decide+kernel
theorem row46:(opsL.all fun b=>right 46 b)=true:=by decide+kernel
theorem row45:(opsL.all fun b=>right 45 b)=true:=by decide+kernel
theorem row44:(opsL.all fun b=>right 44 b)=true:=by decide+kernel
theorem row{A:Nat}(h:A<13):(opsL.all fun b=>right (opsL.getD A 0) b)=true:=by
 rcases(show A=0∨A=1∨A=2∨A=3∨A=4∨A=5∨A=6∨A=7∨A=8∨A=9∨A=10∨A=11∨A=12 by omega)with rfl|rfl|rfl|rfl|rfl|rfl|rfl|rfl|rfl|rfl|rfl|rfl|rfl
 ·exact row60
 ·exact row57
 ·exact row58
 ·exact row59
 ·exact row55
 ·exact row56
 ·exact row63
 ·exact row47
 ·exact row49
 ·exact row67
 ·exact row46
 ·exact row45
 ·exact row44
theorem right_all{A B:Nat}(h1:A<13)(h2:B<13):right (opsL.getD A 0) (opsL.getD B 0)=true:=by
 have h3:=row h1
 have hm:opsL.getD B 0∈opsL:=by
  rw[List.getD_eq_getElem?_getD,List.getElem?_eq_getElem (show B<opsL.length from h2)]
  exact List.getElem_mem _
 rw[List.all_eq_true]at h3
 exact h3 _ hm
end Go.Proofs.YtebjmdpkobhcbaaGreatDoor.lawLevels
