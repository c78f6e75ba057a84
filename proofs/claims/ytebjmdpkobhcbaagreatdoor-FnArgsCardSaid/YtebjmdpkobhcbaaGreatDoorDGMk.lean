/- A part of the proof; no condition of its own. -/
import Derived.Test.YtebjmdpkobhcbaaGreatDoorDShift
import Derived.Test.YtebjmdpkobhcbaaGreatDoorDGSt
namespace Go.Proofs.YtebjmdpkobhcbaaGreatDoor.nd
open Go.ChangeShapes Go.WideShapes Go.ChangeAt Go.RowKit
set_option linter.unusedVariables false
def partS(l:List Nd)(S I:Nat):List Nd:=((l.drop S).take (I+1-S)).map (shN (-(S:Int)))
def partF(l:List Nd)(i:Int):List Nd:=if shape l=true∧0≤i∧i<l.length then partS l ((stO l).getD i.toNat 0) i.toNat else[]
def PtOut(l:List Nd)(w:World)(e:Ending)(w':World):Prop:=
 ∃v z r,e= .returned v∧z.map (·.1)=l∧PT w.heap.size v z r w'∧Below w.heap.size w w'
theorem PT.made{B:Nat}{w:World}(n:Nat)(hn:n≤1048576)(hB:B≤w.heap.size):PT B (.slice (some ⟨w.heap.size,0,none⟩) 0 n) [] (fun i=>i) (w.alloc (.cells (madeCells #[.int .i64 0,.int .i64 0,.string ⟨#[]⟩,.string ⟨#[]⟩,.slice none 0 0] (n*5)) 33)):=
 ⟨⟨rfl,.inr ⟨w.heap.size,n,_,rfl,hB,heap_alloc_new w _,Nat.zero_le _,by unfold maxLen;omega,by simp[madeCells],by simp[fl]⟩⟩,fun i h=>by simp at h,fun i h=>by simp at h,fun i j _ h=>by simp at h,fun i h=>by simp at h⟩
def RelPa(B:Nat)(W:World)(q:List Nd)(v j:Value)(wr:World):Prop:=
 ∃(J:Nat) (z:List (Nd×Value)) (r:Nat→Nat),J≤q.length∧PT B v z r wr∧z.map (·.1)=q.take J∧j= .int .i64 (J:Int)∧Below B W wr
end Go.Proofs.YtebjmdpkobhcbaaGreatDoor.nd

namespace Go.Proofs.YtebjmdpkobhcbaaGreatDoor.nd
open Go.ChangeShapes Go.WideShapes Go.ChangeAt Go.RowKit
set_option linter.unusedVariables false
theorem cell_past{w:World}{b o:Nat}{v:Value}(z:Obj)(h:w.cell? ⟨b,o,none⟩=some v):(w.alloc z).cell? ⟨b,o,none⟩=some v:=
 (((Below.refl w.heap.size w).alloc (Nat.le_refl _) z).cell (p:=⟨b,o,none⟩) (World.block_lt_of_cell? w _ h)).trans h
theorem wrap_eq(z:Int):IntKind.i64.wrap z=wrap64 z:=by rw[IntKind.wrap_i64];unfold wrap64;omega
def RelSs(B:Nat)(W:World)(q:List Nd)(v j:Value)(wr:World):Prop:=
 ∃(J:Nat) (z:List (Nd×Value)) (r:Nat→Nat),J≤q.length∧PT B v z r wr∧z.map (·.1)=q.take J∧j= .int .i64 (J:Int)∧Below B W wr∧∀i,i<z.length→B≤r i
def PgOut(l:List Nd)(w:World)(e:Ending)(w':World):Prop:=
 ∃v z r,e= .returned v∧z.map (·.1)=l∧PT w.heap.size v z r w'∧Below w.heap.size w w'∧∀i,i<z.length→w.heap.size≤r i
def RelSk(g:Nat)(W:World)(t:Nd)(x:Int)(k:Value)(wr:World):Prop:=
 ∃(K:Nat) (v:Value),K≤t.kids.length∧k= .int .i64 (K:Int)∧OwnI (g+1) v (shK x (t.kids.take K)) wr∧wr.heap[g]? =some (.cells #[.int .i64 t.k,.int .i64 t.op,.string t.s,.string t.t,v] 33 (0,0))∧Below g W wr
end Go.Proofs.YtebjmdpkobhcbaaGreatDoor.nd

namespace Go.Proofs.YtebjmdpkobhcbaaGreatDoor.nd
open Go.ChangeShapes Go.WideShapes Go.ChangeAt Go.RowKit
set_option linter.unusedVariables false
theorem KidV.down{B B':Nat}{w:World}{r:Nat}{v:Value}{l:List Int}(h:KidV B w r v l)(hB:B'≤B):KidV B' w r v l:=by
 rcases h with h|⟨cap,e1,e2,e3⟩
 ·exact .inl h
 ·exact .inr ⟨cap,e1,e2,Nat.le_trans hB e3.1,e3.2⟩
theorem PT.up{B B':Nat}{v:Value}{z:List (Nd×Value)}{r:Nat→Nat}{w:World}(h:PT B v z r w)(hB:B'≤B):PT B' v z r w:=
 ⟨⟨h.own.1,h.own.2.elim .inl (fun⟨g,cap,cur,hv,hg,r⟩=> .inr ⟨g,cap,cur,hv,Nat.le_trans hB hg,r⟩)⟩,fun i hi=>(h.kid i hi).down hB,h.off,h.asc,h.lt⟩
structure LP(W3:World)(w:World):Prop where
 bel:Below W3.heap.size W3 w
 le:W3.heap.size≤w.heap.size
end Go.Proofs.YtebjmdpkobhcbaaGreatDoor.nd

namespace Go.Proofs.YtebjmdpkobhcbaaGreatDoor.nd
open Go.ChangeShapes Go.WideShapes Go.ChangeAt Go.RowKit
set_option linter.unusedVariables false
def makeGo:List (List Nd)→List Nd→List Int→List Nd×List Int
 |[],out,ks=>(out,ks)
 |q::ps,out,ks=>makeGo ps (out++q.map (shN (out.length:Int))) (ks++[((out++q.map (shN (out.length:Int))).length:Int)-1])
def makeT(n:Nd)(ps:List (List Nd)):List Nd:=(makeGo ps [] []).1++[{n with kids:=(makeGo ps [] []).2}]
theorem makeGo_snoc:∀(ps:List (List Nd)) (q:List Nd) (out:List Nd) (ks:List Int),makeGo (ps++[q]) out ks=((makeGo ps out ks).1++q.map (shN ((makeGo ps out ks).1.length:Int)),(makeGo ps out ks).2++[(((makeGo ps out ks).1++q.map (shN ((makeGo ps out ks).1.length:Int))).length:Int)-1]):=by
 intro ps
 induction ps with
 |nil=>intro q out ks;rfl
 |cons x ps ih=>intro q out ks;simp only[List.cons_append,makeGo];rw[ih]
theorem makeGo_klen:∀(ps:List (List Nd)) (out:List Nd) (ks:List Int),(makeGo ps out ks).2.length=ks.length+ps.length:=by
 intro ps
 induction ps with
 |nil=>intro out ks;simp[makeGo]
 |cons x ps ih=>intro out ks;simp only[makeGo];rw[ih];simp;omega
def sumL:List (List Nd)→Nat
 |[]=>0
 |q::ps=>q.length+sumL ps
theorem makeGo_len:∀(ps:List (List Nd)) (out:List Nd) (ks:List Int),(makeGo ps out ks).1.length=out.length+sumL ps:=by
 intro ps
 induction ps with
 |nil=>intro out ks;simp[makeGo,sumL]
 |cons x ps ih=>intro out ks;simp only[makeGo];rw[ih];simp[sumL];omega
def Parts(B:Nat)(w:World)(a:Option Addr)(ps:List (List Nd)):Prop:=
 ps=[]∨∃b o,a=some ⟨b,o,none⟩∧b<B∧∀i (h:i<ps.length),∃ai ci,w.cell? ⟨b,o+i,none⟩=some (.slice ai ps[i].length ci)∧Lies B w ai ps[i]
theorem Parts.keep{B B':Nat}{w w':World}{a:Option Addr}{ps:List (List Nd)}(h:Parts B w a ps)(hb:Below B' w w')(hB:B≤B'):Parts B w' a ps:=by
 rcases h with h|⟨b,o,rfl,hlt,hc⟩
 ·exact .inl h
 ·refine .inr ⟨b,o,rfl,hlt,fun i hi=> ?_⟩
  obtain⟨ai,ci,f,hl⟩:=hc i hi
  exact⟨ai,ci,(hb.cell (p:=⟨b,o+i,none⟩) (Nat.lt_of_lt_of_le hlt hB)).trans f,hl.keep hb hB⟩
structure MK(g0:Nat)(n:Nd)(gv cv:Nat)(z:List (Nd×Value))(r:Nat→Nat)(gu cu:Nat)(ks:List Int)(w:World):Prop where
 out:PT (g0+1) (.slice (some ⟨gv,0,none⟩) z.length cv) z r w
 kids:OwnI (g0+1) (.slice (some ⟨gu,0,none⟩) ks.length cu) ks w
 box:w.heap[g0]? =some (.cells #[.int .i64 n.k,.int .i64 n.op,.string n.s,.string n.t,.slice (some ⟨gu,0,none⟩) ks.length cu] 33 (0,0))
 ne:gv≠gu
 row:∀i,i<z.length→r i≠gu
 gt:∀i,i<z.length→g0<r i
theorem PT.kept{B q:Nat}{v:Value}{z:List (Nd×Value)}{r:Nat→Nat}{w w':World}(h:PT B v z r w)(hg:w.grownBy w' (some q))(hv:v.ownBlock≠some q)(hr:∀i,i<z.length→r i≠q):PT B v z r w':=by
 refine⟨World.ownsRow.kept h.own hg (.inr hv),fun i hi=>(h.kid i hi).keep (hg.block _ (h.lt i hi) (fun e=>by injection e with e;exact hr i hi e)),h.off,h.asc,fun i hi=>Nat.lt_of_lt_of_le (h.lt i hi) hg.size⟩
theorem OwnI.kept{B q:Nat}{v:Value}{l:List Int}{w w':World}(h:OwnI B v l w)(hg:w.grownBy w' (some q))(hv:v.ownBlock≠some q):OwnI B v l w':=World.ownsRow.kept h hg (.inr hv)
theorem grown_one(w:World)(g j:Nat)(u:Value):w.grownBy (w.setCell ⟨g,j,none⟩ u) (some g):=
 ⟨rfl,rfl,rfl,by simp,fun k _ hne=>heap_setCell_other w ⟨g,j,none⟩ k u (fun e=>hne (by rw[e]))⟩
section
variable {g0 gv cv gu cu:Nat} {n:Nd} {z z2:List (Nd×Value)} {r r2 r':Nat→Nat} {ks:List Int} {w w':World}
theorem MK.over(h:MK g0 n gv cv z r gu cu ks w)(hb:Below w.heap.size w w'):MK g0 n gv cv z r gu cu ks w':=
 ⟨h.out.keep hb (Nat.le_refl _),h.kids.keep hb (Nat.le_refl _),(hb.block g0 (lt_of_heap h.box)).trans h.box,h.ne,h.row,h.gt⟩
theorem MK.gu_lt(h:MK g0 n gv cv z r gu cu ks w):g0<gu∧gu<w.heap.size:=⟨(World.ownsRow.lt h.kids gu rfl).1,(World.ownsRow.lt h.kids gu rfl).2⟩
theorem MK.gv_lt(h:MK g0 n gv cv z r gu cu ks w):g0<gv∧gv<w.heap.size:=⟨(World.ownsRow.lt h.out.own gv rfl).1,(World.ownsRow.lt h.out.own gv rfl).2⟩
theorem MK.kid{gu' cu':Nat}{x:Int}(h:MK g0 n gv cv z r gu cu ks w)(ho:OwnI (g0+1) (.slice (some ⟨gu',0,none⟩) (ks.length+1) cu') (ks++[x]) w')(hg:w.grownBy w' (some gu))(hor:gu=gu'∨w.heap.size≤gu'):
  MK g0 n gv cv z r gu' cu' (ks++[x]) (w'.setCell ⟨g0,4,none⟩ (.slice (some ⟨gu',0,none⟩) (ks.length+1) cu')):=by
 have hu:=h.gu_lt
 have hv:=h.gv_lt
 have hp:=(h.out.kept hg (fun e=>by simp[Value.ownBlock]at e;exact h.ne e) h.row).kept (grown_one w' g0 4 (.slice (some ⟨gu',0,none⟩) (ks.length+1) cu')) (fun e=>by simp[Value.ownBlock]at e;omega) (fun i hi=>by have:=h.gt i hi;omega)
 have hbox:w'.heap[g0]? =some (.cells #[.int .i64 n.k,.int .i64 n.op,.string n.s,.string n.t,.slice (some ⟨gu,0,none⟩) ks.length cu] 33 (0,0)):=by
  rw[hg.block g0 (by omega) (fun e=>by injection e with e;omega)];exact h.box
 refine⟨hp, ?_, ?_, ?_,fun i hi=> ?_,h.gt⟩
 ·rw[List.length_append];exact ownsRow_setCell_below ho (a:=⟨g0,4,none⟩) (Nat.lt_succ_self g0) _
 ·rw[List.length_append];exact heap_setCell_same w' g0 4 _ _ _ hbox
 ·rcases hor with e|e
  ·rw[←e];exact h.ne
  ·omega
 ·rcases hor with e|e
  ·rw[←e];exact h.row i hi
  ·have:=h.out.lt i hi;omega
end
def RelMk(g0:Nat)(W:World)(n:Nd)(ps:List (List Nd))(v k:Value)(wr:World):Prop:=
 ∃(J gv cv:Nat) (z:List (Nd×Value)) (r:Nat→Nat) (gu cu:Nat) (ks:List Int),J≤ps.length∧k= .int .i64 (J:Int)∧v= .slice (some ⟨gv,0,none⟩) z.length cv∧MK g0 n gv cv z r gu cu ks wr∧(z.map (·.1),ks)=makeGo (ps.take J) [] []∧Below g0 W wr
end Go.Proofs.YtebjmdpkobhcbaaGreatDoor.nd
