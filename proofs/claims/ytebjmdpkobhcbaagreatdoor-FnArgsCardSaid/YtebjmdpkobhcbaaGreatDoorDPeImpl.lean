/- A part of the proof; no condition of its own. -/
import Derived.Test.YtebjmdpkobhcbaaGreatDoorDPeUp
import Derived.Test.YtebjmdpkobhcbaaGreatDoorDGMk
import Derived.Test.YtebjmdpkobhcbaaGreatDoorDGOw
import Derived.Test.YtebjmdpkobhcbaaGreatDoorDLevelOf
import Derived.Test.YtebjmdpkobhcbaaGreatDoorDKindB
import Derived.Deep.RegionHeld3
import Derived.BigQuiet
import Derived.RegionTactic
import Derived.BigRegion
namespace Go.Proofs.YtebjmdpkobhcbaaGreatDoor.pr
open Lib (hid)
open Go.ChangeShapes Go.WideShapes Go.ChangeAt Go.RowKit
open tk (Tk)
open nd (Nd PT KidV IBlk OwnI shN makeT)
open ps (Ps B5 posOk kidI top)
open pe
theorem eq_facts{x c:Int}(h:x=c):(x==c)=true∧(x !=c)=false:=by subst h;simp
theorem ne_facts{x c:Int}(h:¬x=c):(x==c)=false∧(x !=c)=true:=by simp[h]
set_option linter.unusedVariables false
set_option linter.unusedSimpArgs false
set_option maxRecDepth 20000
def Bk(g:Nat)(c:Array Value)(ty:TypeId)(w:World):Prop:=w.heap[g]? =some (.cells c ty (0,0))
theorem Bk.lt{g:Nat}{c:Array Value}{ty:TypeId}{w:World}(h:Bk g c ty w):g<w.heap.size:=by
 rcases Nat.lt_or_ge g w.heap.size with h'|h'
 ·exact h'
 ·unfold Bk at h;rw[Array.getElem?_eq_none h']at h;cases h
theorem Bk.new(w:World)(c:Array Value)(ty:TypeId):Bk w.heap.size c ty (w.alloc (.cells c ty)):=heap_alloc_new w _
theorem Bk.keep{g:Nat}{c:Array Value}{ty:TypeId}{w w':World}(h:Bk g c ty w)(hb:Below w.heap.size w w'):Bk g c ty w':=(hb.block g h.lt).trans h
theorem Bk.alloc{g:Nat}{c:Array Value}{ty:TypeId}{w:World}(h:Bk g c ty w)(o:Obj):Bk g c ty (w.alloc o):=h.keep ((Below.refl _ _).alloc (Nat.le_refl _) o)
theorem Bk.drew{g:Nat}{c:Array Value}{ty:TypeId}{w:World}(h:Bk g c ty w):Bk g c ty w.drew:=h
theorem Bk.drewN{g:Nat}{c:Array Value}{ty:TypeId}{w:World}(h:Bk g c ty w)(m:Nat):Bk g c ty (w.drewN m):=h
theorem below_drewN{B:Nat}{w w1:World}(h:Below B w w1)(n:Nat):Below B w (w1.drewN n):=⟨h.os,h.tape,h.output,h.size,h.block⟩
theorem undrew{B:Nat}{W w1:World}(h:Below B W.drew w1):Below B W w1:=⟨h.os,h.tape,h.output,h.size,h.block⟩
theorem Bk.f{g:Nat}{c:Array Value}{ty:TypeId}{w:World}(h:Bk g c ty w)(j:Nat):w.frozen? ⟨g,j,none⟩=false:=frozen_of_row w g j _ _ h
theorem Bk.oth{g k:Nat}{c:Array Value}{ty:TypeId}{w:World}(h:Bk g c ty w)(hne:g≠k)(j:Nat)(u:Value):Bk g c ty (w.setCell ⟨k,j,none⟩ u):=(Below.heap_setCell w ⟨k,j,none⟩ u g hne).trans h
theorem Bk.set{g:Nat}{c:Array Value}{ty:TypeId}{w:World}(h:Bk g c ty w)(j:Nat)(u:Value):Bk g (c.setIfInBounds j u) ty (w.setCell ⟨g,j,none⟩ u):=heap_setCell_same w g j _ _ _ h
section
variable {g:Nat} {ty:TypeId} {w:World} {x0 x1 x2 x3 x4:Value}
theorem Bk.c2(h:Bk g #[x0,x1] ty w):w.cell? ⟨g,0,none⟩=some x0∧w.cell? ⟨g,1,none⟩=some x1:=
 ⟨by rw[cell_of_row w g 0 _ _ _ h];rfl,by rw[cell_of_row w g 1 _ _ _ h];rfl⟩
theorem Bk.c3(h:Bk g #[x0,x1,x2] ty w):w.cell? ⟨g,0,none⟩=some x0∧w.cell? ⟨g,1,none⟩=some x1∧w.cell? ⟨g,2,none⟩=some x2:=
 ⟨by rw[cell_of_row w g 0 _ _ _ h];rfl,by rw[cell_of_row w g 1 _ _ _ h];rfl,by rw[cell_of_row w g 2 _ _ _ h];rfl⟩
theorem Bk.c5(h:Bk g #[x0,x1,x2,x3,x4] ty w):w.cell? ⟨g,0,none⟩=some x0∧w.cell? ⟨g,1,none⟩=some x1∧w.cell? ⟨g,2,none⟩=some x2∧w.cell? ⟨g,3,none⟩=some x3∧w.cell? ⟨g,4,none⟩=some x4:=
 ⟨by rw[cell_of_row w g 0 _ _ _ h];rfl,by rw[cell_of_row w g 1 _ _ _ h];rfl,by rw[cell_of_row w g 2 _ _ _ h];rfl,by rw[cell_of_row w g 3 _ _ _ h];rfl,by rw[cell_of_row w g 4 _ _ _ h];rfl⟩
theorem Bk.put2(h:Bk g #[x0,x1] ty w)(y0 y1:Value):Bk g #[y0,y1] ty ((w.setCell ⟨g,0,none⟩ y0).setCell ⟨g,1,none⟩ y1):=(h.set 0 y0).set 1 y1
theorem Bk.put3(h:Bk g #[x0,x1,x2] ty w)(y0 y1 y2:Value):Bk g #[y0,y1,y2] ty (((w.setCell ⟨g,0,none⟩ y0).setCell ⟨g,1,none⟩ y1).setCell ⟨g,2,none⟩ y2):=((h.set 0 y0).set 1 y1).set 2 y2
theorem Bk.put5(h:Bk g #[x0,x1,x2,x3,x4] ty w)(y0 y1 y2 y3 y4:Value):Bk g #[y0,y1,y2,y3,y4] ty (((((w.setCell ⟨g,0,none⟩ y0).setCell ⟨g,1,none⟩ y1).setCell ⟨g,2,none⟩ y2).setCell ⟨g,3,none⟩ y3).setCell ⟨g,4,none⟩ y4):=((((h.set 0 y0).set 1 y1).set 2 y2).set 3 y3).set 4 y4
end
theorem below_put2{B g:Nat}{W w:World}(h:Below B W w)(hg:B≤g)(y0 y1:Value):Below B W ((w.setCell ⟨g,0,none⟩ y0).setCell ⟨g,1,none⟩ y1):=(h.setCell (p:=⟨g,0,none⟩) hg _).setCell (p:=⟨g,1,none⟩) hg _
theorem below_put3{B g:Nat}{W w:World}(h:Below B W w)(hg:B≤g)(y0 y1 y2:Value):Below B W (((w.setCell ⟨g,0,none⟩ y0).setCell ⟨g,1,none⟩ y1).setCell ⟨g,2,none⟩ y2):=(below_put2 h hg y0 y1).setCell (p:=⟨g,2,none⟩) hg _
theorem below_put5{B g:Nat}{W w:World}(h:Below B W w)(hg:B≤g)(y0 y1 y2 y3 y4:Value):Below B W (((((w.setCell ⟨g,0,none⟩ y0).setCell ⟨g,1,none⟩ y1).setCell ⟨g,2,none⟩ y2).setCell ⟨g,3,none⟩ y3).setCell ⟨g,4,none⟩ y4):=((below_put3 h hg y0 y1 y2).setCell (p:=⟨g,3,none⟩) hg _).setCell (p:=⟨g,4,none⟩) hg _
structure St(w0:World)(a:Option Addr)(n cap i:Nat)(v:Value)(z:List (Nd×Value))(r:Nat→Nat)(w:World):Prop where
 bel:Below w0.heap.size w0 w
 box:Bk w0.heap.size #[.slice a n cap,.int .i64 (i:Int),v] 80 w
 own:PT (w0.heap.size+1) v z r w
 ge:∀j,j<z.length→w0.heap.size<r j
structure Gr(X:Nat→Prop)(v v':Value)(w w':World):Prop where
 size:w.heap.size≤w'.heap.size
 keep:∀k,k<w.heap.size→¬X k→some k≠v.ownBlock→w'.heap[k]? =w.heap[k]?
 own:v'.ownBlock=v.ownBlock∨∃g,v'.ownBlock=some g∧w.heap.size≤g
def X0(b k:Nat):Prop:=k=b
def Xq(b q k:Nat):Prop:=k=b∨k=q
section
variable {X Y:Nat→Prop} {v v1 v2 v':Value} {w w1 w2 w':World}
theorem Gr.refl(X:Nat→Prop)(v:Value)(w:World):Gr X v v w w:=⟨Nat.le_refl _,fun _ _ _ _=>rfl,.inl rfl⟩
theorem Gr.ne(h:Gr X v v' w w'){k:Nat}(hk:k<w.heap.size)(hn:some k≠v.ownBlock):some k≠v'.ownBlock:=by
 rcases h.own with e|⟨g,e,hg⟩
 ·rw[e];exact hn
 ·rw[e];intro e2;injection e2 with e2;omega
theorem Gr.trans(h:Gr X v v1 w w1)(k:Gr X v1 v2 w1 w2):Gr X v v2 w w2:=by
 refine⟨Nat.le_trans h.size k.size,fun j hj hb hn=>(k.keep j (Nat.lt_of_lt_of_le hj h.size) hb (h.ne hj hn)).trans (h.keep j hj hb hn), ?_⟩
 rcases k.own with e|⟨g,e,hg⟩
 ·rw[e];exact h.own
 ·exact .inr ⟨g,e,Nat.le_trans h.size hg⟩
theorem Gr.quiet(h:Below w.heap.size w w'):Gr X v v w w':=⟨h.size,fun k hk _ _=>h.block k hk,.inl rfl⟩
theorem Gr.wide(h:Gr X v v' w w')(hX:∀k,k<w.heap.size→X k→Y k):Gr Y v v' w w':=⟨h.size,fun k hk hy hn=>h.keep k hk (fun hx=>hy (hX k hk hx)) hn,h.own⟩
theorem Gr.set(h:Gr X v v' w w'){g:Nat}(hg:X g∨w.heap.size≤g)(j:Nat)(u:Value):Gr X v v' w (w'.setCell ⟨g,j,none⟩ u):=
 ⟨by simpa using h.size,fun k hk hx hn=>by
  rw[heap_setCell_other _ _ k _ (show k≠g by rintro rfl;rcases hg with hg|hg;exact hx hg;omega)]
  exact h.keep k hk hx hn,h.own⟩
theorem Bk.on{g:Nat}{c:Array Value}{ty:TypeId}(h:Bk g c ty w)(G:Gr X v v' w w')(hx:¬X g)(hn:some g≠v.ownBlock):Bk g c ty w':=(G.keep g h.lt hx hn).trans h
end
structure Ext(X:Nat→Prop)(v:Value)(z:List (Nd×Value))(r:Nat→Nat)(w:World)(v':Value)(z':List (Nd×Value))(r':Nat→Nat)(w':World):Prop where
 g:Gr X v v' w w'
 old:∀j,j<z.length→r' j=r j
 new:∀j,z.length≤j→j<z'.length→w.heap.size≤r' j∨X (r' j)
 pre:z.length≤z'.length
section
variable {X Y:Nat→Prop} {v v1 v2:Value} {z z1 z2:List (Nd×Value)} {r r1 r2:Nat→Nat} {w w1 w2:World}
theorem Ext.refl(X:Nat→Prop)(v:Value)(z:List (Nd×Value))(r:Nat→Nat)(w:World):Ext X v z r w v z r w:=⟨Gr.refl _ _ _,fun _ _=>rfl,fun j h1 h2=>by omega,Nat.le_refl _⟩
theorem Ext.trans(h:Ext X v z r w v1 z1 r1 w1)(k:Ext X v1 z1 r1 w1 v2 z2 r2 w2):Ext X v z r w v2 z2 r2 w2:=by
 refine⟨h.g.trans k.g,fun j hj=>(k.old j (Nat.lt_of_lt_of_le hj h.pre)).trans (h.old j hj),fun j h1 h2=> ?_,Nat.le_trans h.pre k.pre⟩
 rcases Nat.lt_or_ge j z1.length with h3|h3
 ·rw[k.old j h3];exact h.new j h1 h3
 ·rcases k.new j h3 h2 with h4|h4
  ·exact .inl (Nat.le_trans h.g.size h4)
  ·exact .inr h4
theorem Ext.of(h:Gr X v v w w1):Ext X v z r w v z r w1:=⟨h,fun _ _=>rfl,fun j h1 h2=>by omega,Nat.le_refl _⟩
theorem Ext.wide(h:Ext X v z r w v1 z1 r1 w1)(hX:∀k,k<w.heap.size→X k→Y k):Ext Y v z r w v1 z1 r1 w1:=by
 refine⟨h.g.wide hX,h.old,fun j h1 h2=> ?_,h.pre⟩
 rcases h.new j h1 h2 with h3|h3
 ·exact .inl h3
 ·rcases Nat.lt_or_ge (r1 j) w.heap.size with h4|h4
  ·exact .inr (hX _ h4 h3)
  ·exact .inl h4
end
section
variable {w0:World} {a:Option Addr} {n cap i:Nat} {v:Value} {z:List (Nd×Value)} {r:Nat→Nat} {w w':World}
theorem St.lt(h:St w0 a n cap i v z r w):w0.heap.size<w.heap.size:=h.box.lt
theorem St.keep(h:St w0 a n cap i v z r w)(hb:Below w.heap.size w w'):St w0 a n cap i v z r w':=
 ⟨h.bel.trans (hb.mono h.bel.size),h.box.keep hb,h.own.keep hb (Nat.le_refl _),h.ge⟩
theorem St.alloc(h:St w0 a n cap i v z r w)(o:Obj):St w0 a n cap i v z r (w.alloc o):=h.keep ((Below.refl _ _).alloc (Nat.le_refl _) _)
theorem St.drew(h:St w0 a n cap i v z r w):St w0 a n cap i v z r w.drew:=h.keep ((Below.refl _ _).drew)
theorem St.drewN(h:St w0 a n cap i v z r w)(m:Nat):St w0 a n cap i v z r (w.drewN m):=h.keep (below_drewN (Below.refl _ _) m)
theorem St.c(h:St w0 a n cap i v z r w):w.cell? ⟨w0.heap.size,0,none⟩=some (.slice a n cap)∧w.cell? ⟨w0.heap.size,1,none⟩=some (.int .i64 (i:Int))∧w.cell? ⟨w0.heap.size,2,none⟩=some v:=h.box.c3
theorem St.f(h:St w0 a n cap i v z r w)(j:Nat):w.frozen? ⟨w0.heap.size,j,none⟩=false:=h.box.f j
theorem St.not_box(h:St w0 a n cap i v z r w):some w0.heap.size≠v.ownBlock:=fun e=>by have:=(World.ownsRow.lt h.own.own _ e.symm).1;omega
theorem St.new(h:St w0 a n cap i v z r w){g:Nat}(hg:w.heap.size≤g):some g≠v.ownBlock:=fun e=>by have:=(World.ownsRow.lt h.own.own _ e.symm).2;omega
theorem St.at(h:St w0 a n cap i v z r w)(j:Nat):St w0 a n cap j v z r (w.setCell ⟨w0.heap.size,1,none⟩ (.int .i64 (j:Int))):=
 ⟨h.bel.setCell (p:=⟨w0.heap.size,1,none⟩) (Nat.le_refl _) _,h.box.set 1 _,h.own.kept (nd.grown_one w _ 1 _) (fun e=>h.not_box e.symm) (fun j hj=>by have:=h.ge j hj;omega),h.ge⟩
theorem Gr.at{X:Nat→Prop}(hX:X w0.heap.size)(j:Nat)(u:Value):Gr X v v w (w.setCell ⟨w0.heap.size,j,none⟩ u):=(Gr.refl X v w).set (.inl hX) j u
theorem St.oset(h:St w0 a n cap i v z r w){g:Nat}(h1:g≠w0.heap.size)(h2:some g≠v.ownBlock)(h3:∀j,j<z.length→r j≠g)(h4:w0.heap.size≤g)(j:Nat)(u:Value):St w0 a n cap i v z r (w.setCell ⟨g,j,none⟩ u):=
 ⟨h.bel.setCell (p:=⟨g,j,none⟩) h4 _,h.box.oth (fun e=>h1 e.symm) j u,h.own.kept (nd.grown_one w _ j _) (fun e=>h2 e.symm) h3,h.ge⟩
end
def ta(l:List Tk)(i:Nat):Int:=(l[i]?.map (·.a)).getD 0
theorem ta_at{l:List Tk}{i:Nat}(h:i<l.length):ta l i=l[i].a:=by unfold ta;rw[List.getElem?_eq_getElem h];rfl
theorem at_end{l:List Tk}{i:Nat}(h:l.length≤i):kd l i=0∧tx l i=⟨#[]⟩∧ta l i=0:=by
 unfold kd tx ta;rw[List.getElem?_eq_none h];exact⟨rfl,rfl,rfl⟩
theorem fld_k(x0 x1 x2:Value)(w:World):(Instr.field 86 (.agg #[x0,x1,x2]) 0).run Tryz.prog w= .ok x0 w:=by rfl
theorem fld_s(x0 x1 x2:Value)(w:World):(Instr.field 86 (.agg #[x0,x1,x2]) 1).run Tryz.prog w= .ok x1 w:=by rfl
theorem fld_l(x0 x1:Value)(w:World):(Instr.field 82 (.agg #[x0,x1]) 0).run Tryz.prog w= .ok x0 w:=by rfl
theorem fld_p(x0 x1 x2 x3 x4:Value)(w:World):(Instr.field 44 (.agg #[x0,x1,x2,x3,x4]) 0).run Tryz.prog w= .ok x0 w:=by rfl
theorem step_append_node2{ops:Array Oper}{o:Oper}{a:Act}{w:World}{K:Act→World→Prop}{Q:Exit→Act→World→Prop}{E:Prop}(t:Nd)(u:Value)(hgd:o.guard=none)(s x:Operand)
  (ho:o.op= .call {callee:= .builtin .append,args:= #[s,x],argTypes:= #[26,26]}) (B:Nat) (v:Value) (d:List (Nd×Value)) (r:Nat→Nat) (b:Nat) (hs:a.eval s=v)
  (hown:PT B v d r w) (gz:Nat) (hx:a.eval x= .slice (some ⟨gz,0,none⟩) 1 1) (hz:w.heap[gz]? =some (.cells #[.int .i64 t.k,.int .i64 t.op,.string t.s,.string t.t,u] 33 (0,0))) (hu:u.oneCell'=true) (hn:d.length≤1048576) (hB:B≤w.heap.size)
  (hk:KidV B w b u t.kids) (hb:∀i,i<d.length→r i≠b) (hbw:b<w.heap.size) (hoff:v.ownBlock≠some b)
  (h:∀g cap r' w',PT B (.slice (some ⟨g,0,none⟩) (d.length+1) cap) (d++[(t,u)]) r' w'→Below B w w'→w.grownBy w' v.ownBlock→(v.ownBlock=some g∨w.heap.size≤g)→(∀i,i<d.length→r' i=r i)→r' d.length=b→K (a.put o.dst (.slice (some ⟨g,0,none⟩) (d.length+1) cap)) w'):
  if Region.wanted o (yielded ops a.tmps)=true then Oper.wp Tryz.prog o a w K Q else E:=by
 obtain⟨i0,hi,m,y,f⟩:=info_parts Go.Proofs.YtebjmdpkobhcbaaGreatDoor.nd.Tryz.infoNode
 refine step_append_lies w hgd s x 26 ho B 33 i0 _ 5 72 Tryz.underlying26 hi m y f rfl (by decide) v d.length (nd.fl d) hs hown.own ⟨gz,0,none⟩ 1 1 [.int .i64 t.k,.int .i64 t.op,.string t.s,.string t.t,u] hx rfl ?_ ?_ (by decide) (by unfold maxLen;omega) (by omega) hB _ rfl ?_
 ·intro j q hj
  rw[show((⟨gz,0,none⟩:Addr).add j)=⟨gz,j,none⟩ by unfold Addr.add;split<;>simp_all]
  rw[cell_of_row _ gz j _ _ _ hz]
  simpa using hj
 ·intro q hq
  simp at hq
  rcases hq with rfl|rfl|rfl|rfl|rfl
  ·rfl
  ·rfl
  ·rfl
  ·rfl
  ·exact hu
 ·intro g cap w' hown' hg hor _
  have hkeep:∀k,k<w.heap.size→v.ownBlock≠some k→w'.heap[k]? =w.heap[k]? :=fun k hk hne=>hg.block k hk (fun e=>hne e.symm)
  have hgne:∀k,k<w.heap.size→v.ownBlock≠some k→g≠k:=fun k hk hne e=>by
   rcases hor with e2|e2
   ·exact hne (by rw[e2,e])
   ·omega
  refine h g cap (fun i=>if i<d.length then r i else b) w' ⟨?_,fun i hi=> ?_,fun i hi=> ?_,fun i j hij hj=> ?_,fun i hi=> ?_⟩ ?_ hg (hor.imp id (fun h=>by omega)) (fun i hi=>if_pos hi) (if_neg (Nat.lt_irrefl _))
  ·unfold nd.OwnN
   rw[nd.fl_snoc,List.length_append]
   exact hown'
  ·simp at hi
   by_cases he:i<d.length
   ·simp only[List.getElem_append_left he,if_pos he]
    exact(hown.kid i he).keep (hkeep _ (hown.lt i he) (hown.off i he))
   ·obtain rfl:i=d.length:=by omega
    simp only[List.getElem_append_right (Nat.le_refl _),Nat.sub_self,List.getElem_cons_zero,if_neg (Nat.lt_irrefl _)]
    exact hk.keep (hkeep _ hbw hoff)
  ·simp at hi
   by_cases he:i<d.length
   ·simp only[if_pos he]
    intro e
    injection e with e
    exact hgne _ (hown.lt i he) (hown.off i he) e
   ·simp only[if_neg he]
    intro e
    injection e with e
    exact hgne _ hbw hoff e
  ·simp at hj
   by_cases he:j<d.length
   ·simp only[if_pos he,if_pos (Nat.lt_trans hij he)]
    exact hown.asc i j hij he
   ·simp only[if_neg he,if_pos (show i<d.length by omega)]
    exact hb i (by omega)
  ·simp at hi
   have:=hg.size
   by_cases he:i<d.length
   ·simp only[if_pos he];have:=hown.lt i he;omega
   ·simp only[if_neg he];omega
  ·exact(Below.refl B w).grown hg hB fun k hk=>(World.ownsRow.lt hown.own k hk).1
section
variable {w0:World} {l:List Tk} {a:Option Addr} {cap i:Nat} {v:Value} {z:List (Nd×Value)} {r:Nat→Nat}
theorem tok_cells{w:World}(hc:tk.Lies w0.heap.size w0 a l)(hb:Below w0.heap.size w0 w){j:Nat}(hj:j<l.length):∃b o,a=some ⟨b,o,none⟩∧w.cell? ⟨b,o+j*3,none⟩=some (.int .i64 (kd l j))∧w.cell? ⟨b,o+j*3+1,none⟩=some (.string (tx l j))∧w.cell? ⟨b,o+j*3+2,none⟩=some (.int .i64 (ta l j)):=by
 obtain⟨b,o,e,hlt,h⟩:=tk.lies_at hc hj
 have:=(h j hj).keep hb hlt
 rw[kd_at hj,tx_at hj,ta_at hj]
 exact⟨b,o,e,this⟩
set_option maxHeartbeats 1600000 in
theorem next_any(w:World)(hst:St w0 a l.length cap i v z r w)(hc:tk.Lies w0.heap.size w0 a l)(hl:l.length≤100000)(hi:i≤l.length):
  Calls Tryz.prog 100 #[.pointer (some ⟨w0.heap.size,0,none⟩)] w fun e w'=>e= .returned (.agg #[.int .i64 (kd l i),.string (tx l i),.int .i64 (ta l i)])∧Below w.heap.size w w':=by
 obtain⟨W,hW⟩:∃W,W=w.alloc (.cells #[.int .i64 0,.string ⟨#[]⟩,.int .i64 0] 86):=⟨_,rfl⟩
 have HT:=hid (show Bk w.heap.size #[.int .i64 0,.string ⟨#[]⟩,.int .i64 0] 86 W by rw[hW];exact Bk.new _ _ _)
 have HS:=hid (show St w0 a l.length cap i v z r W by rw[hW];exact hst.alloc _)
 have HB:=hid (show Below w.heap.size w W by rw[hW];exact(Below.refl _ _).alloc (Nat.le_refl _) _)
 obtain⟨c0,c1,-⟩:=HS.c
 obtain⟨N,hN⟩:∃N,l.length=N:=⟨_,rfl⟩
 by_cases h:i<l.length
 ·obtain⟨b,o,rfl,d0,d1,d2⟩:=tok_cells hc HS.bel h
  obtain⟨k,hk⟩:∃k,kd l i=k:=⟨_,rfl⟩
  obtain⟨x,hx⟩:∃x,tx l i=x:=⟨_,rfl⟩
  obtain⟨y,hy⟩:∃y,ta l i=y:=⟨_,rfl⟩
  rw[hk]at d0
  rw[hx]at d1
  rw[hy]at d2
  rw[hk,hx,hy]
  rw[hN]at c0 h hl
  have h1:(i:Int)<(N:Int):=by omega
  clear hk hx hy hst hc hi h hN
  rw[hW]at c0 c1 d0 d1 d2
  go_enter Tryz.func100,Tryz.ntmps100
  go_wp2
  go_quiet (fail)
  go_wp2
  go_region
  go_wp2
  rw[←hW]
  obtain⟨r0,r1,r2⟩:=((HT.drewN (nq+1)).put3 (.int .i64 k) (.string x) (.int .i64 y)).c3
  exact bodyPost_ret (v:= .agg #[.int .i64 k,.string x,.int .i64 y]) (by simp[results,Tryz.results100,go_sem,r0,r1,r2]) rfl ⟨rfl,below_put3 (below_drewN HB.out _) (Nat.le_refl _) _ _ _⟩
 ·obtain⟨e0,e1,e2⟩:=at_end (Nat.le_of_not_lt h)
  rw[e0,e1,e2]
  have h1:¬(i:Int)<(N:Int):=by omega
  have h2:(N:Int)≤(i:Int):=by omega
  rw[hN]at c0 hl
  clear hst hc hi h hN e0 e1 e2
  rw[hW]at c0 c1
  go_enter Tryz.func100,Tryz.ntmps100
  go_wp2
  go_quiet (fail)
  go_wp2
  rw[←hW]
  obtain⟨r0,r1,r2⟩:=((HT.drewN nq).put3 (.int .i64 0) (.string ⟨#[]⟩) (.int .i64 0)).c3
  exact bodyPost_ret (v:= .agg #[.int .i64 0,.string ⟨#[]⟩,.int .i64 0]) (by simp[results,Tryz.results100,go_sem,r0,r1,r2]) rfl ⟨rfl,below_put3 (below_drewN HB.out _) (Nat.le_refl _) _ _ _⟩
set_option maxHeartbeats 1600000 in
theorem follower_any(w:World)(hst:St w0 a l.length cap i v z r w)(hc:tk.Lies w0.heap.size w0 a l)(hl:l.length≤100000)(hi:i≤l.length):
  Calls Tryz.prog 278 #[.pointer (some ⟨w0.heap.size,0,none⟩)] w fun e w'=>e= .returned (.int .i64 (kd l (i+1)))∧Below w.heap.size w w':=by
 have HS:=hid hst
 obtain⟨c0,c1,-⟩:=HS.c
 obtain⟨N,hN⟩:∃N,l.length=N:=⟨_,rfl⟩
 by_cases h:i+1<l.length
 ·obtain⟨b,o,rfl,d0,d1,d2⟩:=tok_cells hc HS.bel h
  obtain⟨k,hk⟩:∃k,kd l (i+1)=k:=⟨_,rfl⟩
  rw[hk]at d0
  rw[hk]
  have h1:(i:Int)+1<(N:Int):=by omega
  have h2:¬(N:Int)≤(i:Int)+1:=by omega
  have j:N≤100000:=by omega
  rw[hN]at c0
  have f:w.cell? ⟨b,o+(i*3+3),none⟩=some (.int .i64 k):=by rw[←d0];congr 2;omega
  have HD:=hid f
  clear hk hst hc hi h hN hl d1 d2
  go_enter Tryz.func278,Tryz.ntmps278
  go_wp2
  go_quiet (fail)
  go_wp2
  go_quiet (fail)
  go_wp2
  go_ret
  exact⟨rfl,below_drewN (below_drewN (Below.refl _ _) _) _⟩
 ·obtain⟨e0,-,-⟩:=at_end (l:=l) (i:=i+1) (Nat.le_of_not_lt h)
  rw[e0]
  have h1:¬(i:Int)+1<(N:Int):=by omega
  have h2:(N:Int)≤(i:Int)+1:=by omega
  have j:i≤100000:=by omega
  rw[hN]at c0
  clear hst hc hi h hN hl e0
  go_enter Tryz.func278,Tryz.ntmps278
  go_wp2
  go_quiet (fail)
  go_wp2
  go_ret
  exact⟨rfl,below_drewN (Below.refl _ _) _⟩
def aft(l:List Tk)(i:Nat)(k:Int):Nat:=if kd l i=k then i+1 else i
set_option maxHeartbeats 1600000 in
theorem take_any(k:Int)(w:World)(hst:St w0 a l.length cap i v z r w)(hc:tk.Lies w0.heap.size w0 a l)(hl:l.length≤100000)(hi:i≤l.length):
  Calls Tryz.prog 233 #[.pointer (some ⟨w0.heap.size,0,none⟩),.int .i64 k] w fun e w'=>e= .returned (.bool (decide (kd l i=k)))∧St w0 a l.length cap (aft l i k) v z r w'∧Gr (X0 w0.heap.size) v v w w':=by
 have HS:=hid hst
 have HNX:=hid (next_any w hst hc hl hi)
 have hfk:=fld_k
 have hib:i≤100000:=by omega
 by_cases h:kd l i=k
 ·have HE:=hid (show aft l i k=i+1 from if_pos h)
  rw[h]at HNX
  rw[h]
  have hk:(k==k)=true:=beq_self_eq_true k
  have j:(k !=k)=false:=by simp
  clear hst hc hl hi h
  go_enter Tryz.func233,Tryz.ntmps233
  go_wp2_with fail
  refine HNX.mono ?_
  rintro e w1 ⟨rfl,b1⟩
  have S1:=hid (HS.keep b1)
  have G1:=hid (show Gr (X0 w0.heap.size) v v w w1 from Gr.quiet b1)
  have c0:=S1.c
  have f1:=S1.f 1
  clear b1
  go_wp2
  go_ret
  have hs:=S1.at (i+1)
  have hg:=G1.trans (Gr.at (X:=X0 w0.heap.size) (v:=v) (w0:=w0) (w:=w1) rfl 1 (.int .i64 ((i+1:Nat):Int)))
  rw[show((i+1:Nat):Int)=(i:Int)+1 by omega]at hs hg
  refine⟨by simp, ?_,hg⟩
  rw[HE.out]
  exact hs
 ·have HE:=hid (show aft l i k=i from if_neg h)
  have hd:decide (kd l i=k)=false:=decide_eq_false h
  rw[hd]
  obtain⟨c,hcc⟩:∃c,kd l i=c:=⟨_,rfl⟩
  rw[hcc]at HNX h
  obtain⟨q1,q2⟩:=ne_facts h
  clear hst hc hl hi h hd hcc
  go_enter Tryz.func233,Tryz.ntmps233
  go_wp2_with fail
  refine HNX.mono ?_
  rintro e w1 ⟨rfl,b1⟩
  have S1:=hid (HS.keep b1)
  have G1:=hid (show Gr (X0 w0.heap.size) v v w w1 from Gr.quiet b1)
  clear b1
  go_wp2
  go_ret
  refine⟨rfl, ?_,G1.out⟩
  rw[HE.out]
  exact S1.out
set_option maxHeartbeats 1600000 in
theorem root_any(w:World)(hst:St w0 a l.length cap i v z r w)(h0:0<z.length)(hz:z.length≤1000000):
  Calls Tryz.prog 103 #[.pointer (some ⟨w0.heap.size,0,none⟩)] w fun e w'=>e= .returned (.int .i64 ((z.length:Int)-1))∧w=w':=by
 have HS:=hid hst
 obtain⟨av,cv,hv⟩:=hst.own.form
 obtain⟨c0,c1,c2⟩:=HS.c
 rw[hv]at c2
 obtain⟨N,hN⟩:∃N,z.length=N:=⟨_,rfl⟩
 rw[hN]at c2 h0 hz⊢
 clear hst hv hN
 go_enter Tryz.func103,Tryz.ntmps103
 go_wp2
 go_ret
 exact⟨rfl,rfl⟩
def atOf(b:Nat)(w:World):Nat:=match w.cell? ⟨b,1,none⟩with
 |some (.int _ x)=>x.toNat
 |_=>0
theorem at_of{w:World}{n:Nat}(h:St w0 a n cap i v z r w):atOf w0.heap.size w=i:=by
 unfold atOf
 rw[h.c.2.1]
 simp
def RelSk(w0:World)(l:List Tk)(a:Option Addr)(cap i:Nat)(v:Value)(z:List (Nd×Value))(r:Nat→Nat)(w wr:World):Prop:=
 ∃j,j≤l.length∧sk l j=sk l i∧St w0 a l.length cap j v z r wr∧Gr (X0 w0.heap.size) v v w wr
set_option maxHeartbeats 1600000 in
theorem skip_any(w:World)(hst:St w0 a l.length cap i v z r w)(hc:tk.Lies w0.heap.size w0 a l)(hl:l.length≤100000)(hi:i≤l.length):
  Calls Tryz.prog 240 #[.pointer (some ⟨w0.heap.size,0,none⟩)] w fun e w'=>e= .returned (.tuple #[])∧St w0 a l.length cap (sk l i) v z r w'∧Gr (X0 w0.heap.size) v v w w':=by
 have HS:=hid hst
 have HC:=hid hc
 have HL:=hid hl
 have HI:=hid hi
 clear hst hc hl hi
 go_enter Tryz.func240,Tryz.ntmps240
 go_wp2
 go_loopw [2] (fun _ wr=>RelSk w0 l a cap i v z r w wr) (fun _ wr=>l.length-atOf w0.heap.size wr)
 case atStart=>exact⟨i,HI.out,rfl,HS.out,Gr.refl _ _ _⟩
 case round=>
  obtain⟨j,hj,hsk,hst,hgr⟩:=hrel
  have S1:=hid hst
  have G1:=hid hgr
  have HSK:=hid hsk
  have HJ:=hid hj
  have f:=hid (take_any 1 wr hst HC.out HL.out hj)
  have HM:=hid (at_of hst)
  by_cases h1:kd l j=1
  ·have HA:=hid (show aft l j 1=j+1 from if_pos h1)
   have HSY:=hid (sk_yes (.inl h1))
   have HLT:=hid (kd_lt (l:=l) (i:=j) (by omega))
   rw[HA.out,decide_eq_true h1]at f
   clear hst hgr hsk hj h1
   go_wp2_with (refine f.mono ?_;rintro e w1 ⟨rfl,s1,g1⟩;have S2:=hid s1;have G2:=hid (G1.trans g1);clear s1 g1)
   go_roundw
   case rel=>exact⟨j+1,HLT.out,HSY.symm.trans HSK.out,S2.out,G2.out⟩
   case measure=>rw[at_of S2.out,HM.out];have:=HLT.out;omega
  by_cases h2:kd l j=2
  ·have HA:=hid (show aft l j 1=j from if_neg h1)
   have m:=hid (show aft l j 2=j+1 from if_pos h2)
   have HSY:=hid (sk_yes (.inr h2))
   have HLT:=hid (kd_lt (l:=l) (i:=j) (by omega))
   rw[HA.out,decide_eq_false h1]at f
   have h:=hid (fun w2 s2=>take_any (v:=v) (z:=z) (r:=r) (cap:=cap) 2 w2 s2 HC.out HL.out hj)
   rw[m.out,decide_eq_true h2]at h
   clear hst hgr hsk hj h1 h2
   go_wp2_with (first|(refine(h.out _ S2.out).mono ?_;rintro e w2 ⟨rfl,s1,g1⟩;have S3:=hid s1;have G3:=hid (G2.trans g1);clear s1 g1)|(refine f.mono ?_;rintro e w1 ⟨rfl,s1,g1⟩;have S2:=hid s1;have G2:=hid (G1.trans g1);clear s1 g1))
   go_roundw
   case rel=>exact⟨j+1,HLT.out,HSY.symm.trans HSK.out,S3.out,G3.out⟩
   case measure=>rw[at_of S3.out,HM.out];have:=HLT.out;omega
  ·have HA:=hid (show aft l j 1=j from if_neg h1)
   have m:=hid (show aft l j 2=j from if_neg h2)
   have HSN:=hid (sk_no (l:=l) (i:=j) (by omega))
   rw[HA.out,decide_eq_false h1]at f
   have h:=hid (fun w2 s2=>take_any (v:=v) (z:=z) (r:=r) (cap:=cap) 2 w2 s2 HC.out HL.out hj)
   rw[m.out,decide_eq_false h2]at h
   clear hst hgr hsk hj h1 h2
   go_wp2_with (first|(refine(h.out _ S2.out).mono ?_;rintro e w2 ⟨rfl,s1,g1⟩;have S3:=hid s1;have G3:=hid (G2.trans g1);clear s1 g1)|(refine f.mono ?_;rintro e w1 ⟨rfl,s1,g1⟩;have S2:=hid s1;have G2:=hid (G1.trans g1);clear s1 g1))
   go_end0
   refine⟨rfl, ?_,G3.out⟩
   rw[←HSK.out,HSN.out]
   exact S3.out
set_option maxHeartbeats 1600000 in
theorem add_any(k op:Int)(s t:ByteArray)(ks:List Int)(u:Value)(q:Nat)(w:World)(hst:St w0 a l.length cap i v z r w)(hz:z.length≤1000000)(hu:u.oneCell'=true)(huf:∃ak ck,u= .slice ak ks.length ck)
  (hk:∀w1,Below w.heap.size w w1→w.heap.size<w1.heap.size→KidV (w0.heap.size+1) w1 q u ks∧q<w1.heap.size) (hr:∀j,j<z.length→r j≠q) (ho:v.ownBlock≠some q) (hq:w0.heap.size<q) (hq2:q≤w.heap.size):
  Calls Tryz.prog 241 #[.pointer (some ⟨w0.heap.size,0,none⟩),.agg #[.int .i64 k,.int .i64 op,.string s,.string t,u]] w fun e w'=>e= .returned (.agg #[.int .i64 (lv.levelOf k op),.bool (rt.isLval k)])∧∃v' r',St w0 a l.length cap i v' (z++[(⟨k,op,s,t,ks⟩,u)]) r' w'∧Gr (X0 w0.heap.size) v v' w w'∧(∀j,j<z.length→r' j=r j)∧r' z.length=q:=by
 obtain⟨W,hW⟩:∃W,W=(w.alloc (.cells #[.int .i64 k,.int .i64 op,.string s,.string t,u] 33)).alloc (.cells #[.int .i64 0,.bool false] 82):=⟨_,rfl⟩
 have hB:Below w.heap.size w W:=by rw[hW];exact((Below.refl _ _).alloc (Nat.le_refl _) _).alloc (by simp) _
 have hsz:W.heap.size=w.heap.size+1+1:=by rw[hW];simp
 have HN:=hid (show Bk w.heap.size #[.int .i64 k,.int .i64 op,.string s,.string t,u] 33 W by rw[hW];exact(Bk.new _ _ _).alloc _)
 have HR:=hid (show Bk (w.heap.size+1) #[.int .i64 0,.bool false] 82 W by
  rw[hW]
  have:=Bk.new (w.alloc (.cells #[.int .i64 k,.int .i64 op,.string s,.string t,u] 33)) #[.int .i64 0,.bool false] 82
  simpa using this)
 have HS:=hid (hst.keep hB)
 have m:=hid hst
 have HB:=hid hB
 obtain⟨G,F⟩:=hk W hB (by omega)
 have HK:=hid G
 have P:=hid F
 have HRR:=hid hr
 have HO:=hid ho
 have HQ:=hid hq
 have aa:=hid hq2
 have HZ:=hid (show z.length≤1048576 by omega)
 have HU:=hid hu
 have HUF:=hid huf
 have HSZ:=hid hsz
 obtain⟨c0,c1,c2⟩:=HS.c
 obtain⟨n0,n1,n2,n3,n4⟩:=HN.c5
 clear hst hz hu huf hk G F hr ho hq hq2 hB hsz
 go_enter Tryz.func241,Tryz.ntmps241
 obtain⟨ak,ck,rfl⟩:=HUF.out
 have HBX:=hid (show∀w1,Below (w0.heap.size+1) W w1→Bk w0.heap.size #[.slice a l.length cap,.int .i64 (i:Int),v] 80 w1 from fun w1 hb=>(hb.block _ (Nat.lt_succ_self _)).trans HS.box)
 have HOWN:=hid (show∀w1,Below W.heap.size W w1→PT (w0.heap.size+1) v z r w1 from fun w1 hb=>HS.own.keep hb (Nat.le_refl _))
 have HKW:=hid (show∀w1,Below W.heap.size W w1→KidV (w0.heap.size+1) w1 q (.slice ak ks.length ck) ks from fun w1 hb=>HK.keep (hb.block _ P.out))
 go_wp2
 rw[←hW]
 clear hW
 have C2:∀z,(W.alloc z).cell? ⟨w0.heap.size,2,none⟩=some v:=fun z=>nd.cell_past z c2
 have N0:∀z,(W.alloc z).cell? ⟨w.heap.size,0,none⟩=some (.int .i64 k):=fun z=>nd.cell_past z n0
 have N1:∀z,(W.alloc z).cell? ⟨w.heap.size,1,none⟩=some (.int .i64 op):=fun z=>nd.cell_past z n1
 have N2:∀z,(W.alloc z).cell? ⟨w.heap.size,2,none⟩=some (.string s):=fun z=>nd.cell_past z n2
 have N3:∀z,(W.alloc z).cell? ⟨w.heap.size,3,none⟩=some (.string t):=fun z=>nd.cell_past z n3
 have N4:∀z,(W.alloc z).cell? ⟨w.heap.size,4,none⟩=some (.slice ak ks.length ck):=fun z=>nd.cell_past z n4
 go_region_law (first|(refine step_append_node2 ⟨k,op,s,t,ks⟩ (.slice ak ks.length ck) (by rfl) _ _ (by rfl) (w0.heap.size+1) v z r q (by rfl) (HOWN.out _ (by first|exact(Below.refl _ W).alloc (Nat.le_refl _) _|exact((Below.refl _ W).alloc (Nat.le_refl _) _).drew|exact((Below.refl _ W).drew).alloc (Nat.le_refl _) _)) W.heap.size (by rfl) (by exact heap_alloc_new W _) (by rfl) HZ.out (by simp;exact Nat.le_of_lt HS.lt) (HKW.out _ (by first|exact(Below.refl _ W).alloc (Nat.le_refl _) _|exact((Below.refl _ W).alloc (Nat.le_refl _) _).drew|exact((Below.refl _ W).drew).alloc (Nat.le_refl _) _)) HRR.out (by simp;exact Nat.lt_succ_of_lt P.out) HO.out ?_;intro g2 A r2 w3 T b3 D J I U;have x:=HBX.out w3 (((Below.refl _ W).alloc HS.lt _).drew.trans b3);obtain⟨-,-,x2⟩:=x.c3;have y2:=x.f 2;have y:∀k,k<W.heap.size→some k≠v.ownBlock→w3.heap[k]? =W.heap[k]? :=fun k hk hn=>(D.block k (by simp;exact Nat.lt_succ_of_lt hk) hn).trans (Below.heap_alloc W _ k hk);have H:W.heap.size≤w3.heap.size:=Nat.le_trans (by simp) D.size;have S:v.ownBlock=some g2∨W.heap.size≤g2:=J.imp id (fun h=>Nat.le_trans (by simp) h);have O:Below (w0.heap.size+1) W w3:=((Below.refl _ W).alloc HS.lt _).drew.trans b3))
 all_goals
  have K:=hid T
  have Z:=hid (show∀k,k<w.heap.size→some k≠v.ownBlock→w3.heap[k]? =w.heap[k]? from fun k hk hn=>(y k (Nat.lt_of_lt_of_le hk HB.size) hn).trans (HB.block k hk))
  have HNW:=hid (show Bk w.heap.size #[.int .i64 k,.int .i64 op,.string s,.string t,.slice ak ks.length ck] 33 w3 from(y _ HN.lt (m.new (Nat.le_refl _))).trans HN.out)
  have HRW:=hid (show Bk (w.heap.size+1) #[.int .i64 0,.bool false] 82 w3 from(y _ HR.lt (m.new (Nat.le_succ _))).trans HR.out)
  have N:=hid S
  have C:=hid I
  have B:=hid U
  have V:=hid x
  have HBL:=hid (show Below w0.heap.size w0 w3 from HS.bel.trans (O.mono (Nat.le_succ _)))
  have ab:=hid (show w.heap.size≤w3.heap.size from Nat.le_trans HB.size H)
  clear T b3 D J I U x y H S O
  go_wp2
  obtain⟨W4,o⟩:∃W4,W4=w3.setCell ⟨w0.heap.size,2,none⟩ (.slice (some ⟨g2,0,none⟩) (z.length+1) A):=⟨_,rfl⟩
  have hbw:w0.heap.size<w.heap.size:=m.lt
  have S4:=hid (show St w0 a l.length cap i (.slice (some ⟨g2,0,none⟩) (z.length+1) A) (z++[(⟨k,op,s,t,ks⟩,.slice ak ks.length ck)]) r2 W4 by
   rw[o]
   refine⟨HBL.setCell (p:=⟨w0.heap.size,2,none⟩) (Nat.le_refl _) _,V.set 2 _,K.kept (nd.grown_one w3 _ 2 _) (fun e=> ?_) (fun j hj=> ?_),fun j hj=> ?_⟩
   ·have:=(World.ownsRow.lt K.own _ e).1;omega
   ·rw[List.length_append,List.length_singleton]at hj
    rcases Nat.lt_or_ge j z.length with h|h
    ·rw[C.out j h];have:=m.ge j h;omega
    ·rw[show j=z.length by omega,B.out];have:=HQ.out;omega
   ·rw[List.length_append,List.length_singleton]at hj
    rcases Nat.lt_or_ge j z.length with h|h
    ·rw[C.out j h];exact m.ge j h
    ·rw[show j=z.length by omega,B.out];exact HQ.out)
  have G4:=hid (show Gr (X0 w0.heap.size) v (.slice (some ⟨g2,0,none⟩) (z.length+1) A) w W4 by
   rw[o]
   refine Gr.set (X:=X0 w0.heap.size) (v:=v) ⟨ab.out,fun j hj _ hn=>Z.out j hj hn, ?_⟩ (.inl (show X0 _ _ from rfl)) 2 _
   rcases N.out with e|e
   ·exact .inl e.symm
   ·exact .inr ⟨g2,rfl,Nat.le_trans HB.size e⟩)
  have Q:=hid (show Bk w.heap.size #[.int .i64 k,.int .i64 op,.string s,.string t,.slice ak ks.length ck] 33 W4 by rw[o];exact HNW.oth (by omega) 2 _)
  have R4:=hid (show Bk (w.heap.size+1) #[.int .i64 0,.bool false] 82 W4 by rw[o];exact HRW.oth (by omega) 2 _)
  obtain⟨p0,p1,p2,p3,p4⟩:=Q.c5
  rw[←o]
  clear o hbw
  clear c0 c1 c2 n0 n1 n2 n3 n4 C2 N0 N1 N2 N3 N4 x2 y2
  have ac:=p0
  go_region_law (first|(go_simp;go_at_call 88;refine(lv.impl_level k op s t ak ks.length ck _).mono ?_;rintro e w5 ⟨rfl,b5⟩;have R5:=R4.keep (undrew b5);have S5:=S4.keep (undrew b5);have G5:=G4.trans (Gr.quiet (X:=X0 w0.heap.size) (undrew b5));obtain⟨m0,m1⟩:=R5.c2;have m2:=R5.f 0;have m3:=R5.f 1;obtain⟨k0,-,-,-,-⟩:=(Q.keep (undrew b5)).c5)|(go_simp;go_at_call 273;refine(rt.impl_isLval k _).mono ?_;rintro e w6 ⟨rfl,rfl⟩))
  all_goals
   go_wp2
   obtain⟨r0,r1⟩:=(R5.put2 (.int .i64 (lv.levelOf k op)) (.bool (rt.isLval k))).c2
   have hbw:w0.heap.size<w.heap.size:=m.lt
   have h2:some (w.heap.size+1)≠(Value.slice (some ⟨g2,0,none⟩) (z.length+1) A).ownBlock:=fun e=>by
    simp[Value.ownBlock]at e
    rcases N.out with e2|e2
    ·have:=(World.ownsRow.lt m.own.own _ e2).2;omega
    ·have:=HSZ.out;omega
   have h3:∀j,j<(z++[((⟨k,op,s,t,ks⟩:Nd),Value.slice ak ks.length ck)]).length→r2 j≠w.heap.size+1:=fun j hj=>by
    rw[List.length_append,List.length_singleton]at hj
    rcases Nat.lt_or_ge j z.length with h|h
    ·rw[C.out j h];have:=m.own.lt j h;omega
    ·rw[show j=z.length by omega,B.out];have:=aa.out;omega
   exact bodyPost_ret (v:= .agg #[.int .i64 (lv.levelOf k op),.bool (rt.isLval k)]) (by simp[results,Tryz.results241,go_sem,r0,r1]) rfl ⟨rfl,_,r2,(S5.oset (by omega) h2 h3 (by omega) 0 _).oset (by omega) h2 h3 (by omega) 1 _,(G5.set (.inr (Nat.le_succ _)) 0 _).set (.inr (Nat.le_succ _)) 1 _,C.out,B.out⟩
end
end Go.Proofs.YtebjmdpkobhcbaaGreatDoor.pr
