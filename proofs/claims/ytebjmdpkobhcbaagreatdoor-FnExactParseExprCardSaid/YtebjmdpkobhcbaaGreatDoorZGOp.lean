/- A part of the proof; no condition of its own. -/
import Derived.Test.YtebjmdpkobhcbaaGreatDoorZGNd
import Derived.Lib.SmallJoins
import Derived.Test.YtebjmdpkobhcbaaGreatDoorZGKd
namespace Go.Proofs.YtebjmdpkobhcbaaGreatDoor.nd
open Go.ChangeShapes Go.WideShapes Go.ChangeAt Go.RowKit Go.Deep
set_option linter.unusedVariables false
set_option maxRecDepth 20000
theorem cellsInt:Tryz.prog.cellsOf 3=1:=by kernel_rfl
theorem cellsStr:Tryz.prog.cellsOf 9=1:=by kernel_rfl
theorem addr_plain(b o j:Nat):(⟨b,o,none⟩:Addr).add j=⟨b,o+j,none⟩:=by
 simp only[Addr.add]
 split
 ·next h0=>subst h0;rfl
 ·rfl
section
variable {H:Type} {enc:TypeId×Value→H} {P:Program} {w:World} {base:Nat} {spare:Nat→Bool} {held:Bool}
theorem trod_struct5{t:TypeId}{f0 f1 f2 f3 f4:Field}{fuel:Nat}{cs:List Value}{x:DataW H×List MemPlace}(ht:P.underlying t=some (.struct #[f0,f1,f2,f3,f4]))(h:DataW.trod enc P w base spare held fuel t cs=some x):
  ∃y0 y1 y2 y3 y4 n,cs.length=P.cellsOf t∧DataW.trod enc P w base spare held n f0.type ((cs.drop f0.offset).take (P.cellsOf f0.type))=some y0∧
   DataW.trod enc P w base spare held n f1.type ((cs.drop f1.offset).take (P.cellsOf f1.type))=some y1∧DataW.trod enc P w base spare held n f2.type ((cs.drop f2.offset).take (P.cellsOf f2.type))=some y2∧
   DataW.trod enc P w base spare held n f3.type ((cs.drop f3.offset).take (P.cellsOf f3.type))=some y3∧DataW.trod enc P w base spare held n f4.type ((cs.drop f4.offset).take (P.cellsOf f4.type))=some y4:=by
 obtain⟨xs,n,_,rfl,hl,hlen,hf⟩:=DataW.trod_struct ht h
 match xs,hlen with
 |[y0,y1,y2,y3,y4],_=>exact⟨y0,y1,y2,y3,y4,n,hl,by simpa using hf 0 f0 rfl,by simpa using hf 1 f1 rfl,by simpa using hf 2 f2 rfl,by simpa using hf 3 f3 rfl,by simpa using hf 4 f4 rfl⟩
end
theorem array5{α:Type}{cs:Array α}(h:cs.size=5):∃c0 c1 c2 c3 c4,cs= #[c0,c1,c2,c3,c4]:=by
 obtain⟨l⟩:=cs
 match l,h with
 |[c0,c1,c2,c3,c4],_=>exact⟨c0,c1,c2,c3,c4,rfl⟩
theorem places_lt{H:Type}{enc:TypeId×Value→H}{W:World}{t:TypeId}{v:Value}{d:DataW H}{p:List MemPlace}(h:DataW.Trod enc Tryz.prog W 0 (fun _=>true) true t v d p):∀x∈p,x.block<W.heap.size:=by
 obtain⟨m,hm⟩:=h
 exact DataW.trod_lt m _ _ _ hm
end Go.Proofs.YtebjmdpkobhcbaaGreatDoor.nd

namespace Go.Proofs.YtebjmdpkobhcbaaGreatDoor.ps
open Go.ChangeShapes Go.WideShapes Go.ChangeAt Go.RowKit Go.Deep
open lv (box_below)
set_option linter.unusedVariables false
set_option maxRecDepth 20000
theorem cellsPos:Tryz.prog.cellsOf 49=5:=by kernel_rfl
theorem cellsInt:Tryz.prog.cellsOf 3=1:=by kernel_rfl
theorem cellsBool:Tryz.prog.cellsOf 4=1:=by kernel_rfl
theorem open_pos{H:Type}{enc:TypeId×Value→H}{W:World}{base:Nat}{v:Value}{d:DataW H}{p:List MemPlace}(hv:Value.okWide Tryz.prog W .any base 49 v)
  (h:DataW.Trod enc Tryz.prog W 0 (fun _=>true) true 49 v d p):
  ∃(L:Int) (d i g s:Bool),v= .agg #[.int .i64 L,.bool d,.bool i,.bool g,.bool s]:=by
 obtain⟨cs,rfl,hsz⟩:=okWide_struct Tryz.underlying49 hv
 obtain⟨v0,v1,v2,v3,v4,rfl⟩:=nd.array5 (hsz.trans cellsPos)
 obtain⟨fuel,hf⟩:=h
 obtain⟨y0,y1,y2,y3,y4,q,_,g0,g1,g2,g3,g4⟩:=nd.trod_struct5 Tryz.underlying49 hf
 simp[cellsInt,cellsBool,Value.cells]at g0 g1 g2 g3 g4
 obtain⟨z0,e0,_,_⟩:=DataW.trod_int Tryz.underlying3 g0
 obtain⟨z1,e1,_⟩:=DataW.trod_bool Tryz.underlying4 g1
 obtain⟨z2,e2,_⟩:=DataW.trod_bool Tryz.underlying4 g2
 obtain⟨z3,e3,_⟩:=DataW.trod_bool Tryz.underlying4 g3
 obtain⟨z4,e4,_⟩:=DataW.trod_bool Tryz.underlying4 g4
 simp at e0 e1 e2 e3 e4
 subst e0 e1 e2 e3 e4
 exact⟨z0,z1,z2,z3,z4,rfl⟩
set_option maxHeartbeats 800000 in
theorem to_pos(L:Int)(d i g s:Bool)(w:World):Calls Tryz.prog 26 #[.agg #[.int .i64 L,.bool d,.bool i,.bool g,.bool s]] w fun e w'=>e= .returned (.agg #[.int .i64 L,.bool d,.bool i,.bool g,.bool s])∧Below w.heap.size w w':=by
 go_enter Tryz.func26,Tryz.ntmps26
 go_wp2
 have h1:Below w.heap.size w (w.alloc (.cells #[.int .i64 L,.bool d,.bool i,.bool g,.bool s] 49)):=box_below _ _
 have hs:(w.alloc (.cells #[.int .i64 L,.bool d,.bool i,.bool g,.bool s] 49)).heap.size=w.heap.size+1:=by simp
 generalize w.alloc (.cells #[.int .i64 L,.bool d,.bool i,.bool g,.bool s] 49)=W1 at h1 hs⊢
 have hp:=(Px.start W1 L d i g s 44).keep (box_below _ (.cells #[.int .i64 L,.bool d,.bool i,.bool g,.bool s] 44))
 have hb:=h1.trans (((box_below W1 (.cells #[.int .i64 L,.bool d,.bool i,.bool g,.bool s] 44)).trans ((box_below _ (.cells #[.int .i64 L,.bool d,.bool i,.bool g,.bool s] 44)).mono (by simp))).mono (by omega))
 rw[hs]at hp
 clear hs
 obtain⟨r0,r1,r2,r3,r4,-⟩:=hp
 exact bodyPost_ret (v:= .agg #[.int .i64 L,.bool d,.bool i,.bool g,.bool s]) (by simp[results,Tryz.results26,go_sem,r0,r1,r2,r3,r4]) rfl ⟨rfl,hb⟩
end Go.Proofs.YtebjmdpkobhcbaaGreatDoor.ps
