/- A part of the proof; no condition of its own. -/
import Derived.Test.YtebjmdpkobhcbaaGreatDoorDGPj
namespace Go.Proofs.YtebjmdpkobhcbaaGreatDoor.lawDeep
open nd (Nd)
open pe (readF)
set_option maxRecDepth 100000
def pw:Nat→ByteArray
 |0=>⟨#[]⟩
 |I+1=>pw I++⟨#[40]⟩
def qw(n:Nat):Nat→ByteArray
 |0=>pw n++⟨#[120]⟩
 |J+1=>qw n J++⟨#[41]⟩
def right(N:Nat):Bool:=decide ((qw N N).size≤1048576)&&(if 40<N then decide ((readF (qw N N)).k=4∧(readF (qw N N)).a=40)&&(readF (qw N N)).t.length==0 else decide ((readF (qw N N)).k=0)&&((readF (qw N N)).t.length==1&&((readF (qw N N)).t.headD default).s.toList==[120]))
theorem rights:(List.range 8).all (fun x=>right (37+x))=true:=by decide+kernel
end Go.Proofs.YtebjmdpkobhcbaaGreatDoor.lawDeep
