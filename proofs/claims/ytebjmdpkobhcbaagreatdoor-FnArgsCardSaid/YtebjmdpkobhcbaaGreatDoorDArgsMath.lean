/- A part of the proof; no condition of its own. -/
import Derived.Test.YtebjmdpkobhcbaaGreatDoorDGPj
namespace Go.Proofs.YtebjmdpkobhcbaaGreatDoor.lawArgs
open nd (Nd)
open pe (readF)
set_option maxRecDepth 100000
def hd(h:Nat):ByteArray:=if h=0 then⟨#[102,40]⟩else if h=1 then⟨#[115,117,98,115,116,114,40]⟩else⟨#[97,91]⟩
def aw(h:Nat):Nat→ByteArray
 |0=>hd h
 |i+1=>(if i=0 then aw h i else aw h i++⟨#[44]⟩)++⟨#[120]⟩
def cut(h n:Nat):Nat:=if 6<n then(aw h 6).size else 0
def txt(h n:Nat):ByteArray:=aw h n++(if h=2 then⟨#[93]⟩else⟨#[41]⟩)
def right(h n:Nat):Bool:=decide ((txt h n).size≤1000)&&(decide ((aw h n).size≤1000)&&(if 6<n then decide ((readF (txt h n)).k=3∧(readF (txt h n)).a=(cut h n:Int))&&(readF (txt h n)).t.length==0
 else if n=0∧h=2 then decide ((readF (txt h n)).k=3∧(readF (txt h n)).a=2)
 else decide ((readF (txt h n)).k=0)&&((readF (txt h n)).t.length==n+1&&((readF (txt h n)).t.getD n default).kids.length==n)))
theorem rights:(List.range 3).all (fun h=>(List.range 10).all (fun n=>right h n))=true:=by decide+kernel
theorem right_all{h n:Nat}(h1:h<3)(h2:n<10):right h n=true:=by
 have h0:=rights
 rw[List.all_eq_true]at h0
 have h3:=h0 h (List.mem_range.2 h1)
 rw[List.all_eq_true]at h3
 exact h3 n (List.mem_range.2 h2)
theorem cut_step(h i:Nat):(if i=6 then(aw h i).size else cut h i)=cut h (i+1):=by
 unfold cut
 by_cases h1:i=6
 ·subst h1;rfl
 ·rw[if_neg h1]
  by_cases h2:6<i
  ·rw[if_pos h2,if_pos (by omega)]
  ·rw[if_neg h2,if_neg (by omega)]
end Go.Proofs.YtebjmdpkobhcbaaGreatDoor.lawArgs
