/- A part. -/
import Derived.Test.YtebjmdpkobhcbaaGreatDoorRGQ
import Derived.BigRegion
namespace Go.Proofs.YtebjmdpkobhcbaaGreatDoor.qs
open Go.ChangeShapes Go.WideShapes Go.ChangeAt Go.RowKit
open tk (Tk)
open nd (Nd PT KidV makeT)
open ps (Ps posOk top)
open pe
open pr (Bk Gr X0 below_drewN eq_facts ne_facts)
set_option linter.unusedVariables false
set_option linter.unusedSimpArgs false
set_option maxRecDepth 20000
def Tqa(av:Nat->Prop)(B:Nat)(T:Value)(t:List Nd)(w:World):Prop:=
 ∃z r,PT B T z r w/\z.map (·.1)=t/\(∀j,j<z.length->B<=r j)/\∀g,av g->T.ownBlock≠some g/\∀j,j<z.length->r j≠g
section
variable {av av':Nat->Prop} {B:Nat} {T:Value} {t:List Nd} {w w':World}
theorem Tqa.same(h:Tqa av B T t w)(hs:w.heap.size<=w'.heap.size)(hk:∀k,B<=k->k<w.heap.size->¬av k->w'.heap[k]? =w.heap[k]?):Tqa av B T t w':=by
 obtain⟨z,r,hp,hm,hr,ha⟩:=h
 refine⟨z,r,pt_same hp hs (fun g hg=> ?_) (fun j hj=> ?_),hm,hr,ha⟩
 ·have:=World.ownsRow.lt hp.own g hg
  exact hk g this.1 this.2 (fun e=>(ha g e).1 hg)
 ·exact hk _ (hr j hj) (hp.lt j hj) (fun e=>(ha _ e).2 j hj rfl)
theorem Tqa.more(h:Tqa av B T t w)(hv:∀k,k<w.heap.size->av' k->av k):Tqa av' B T t w:=by
 obtain⟨z,r,hp,hm,hr,ha⟩:=h
 refine⟨z,r,hp,hm,hr,fun g hg=>⟨fun e=> ?_,fun j hj e=> ?_⟩⟩
 ·exact(ha g (hv g (World.ownsRow.lt hp.own g e).2 hg)).1 e
 ·have:=hp.lt j hj
  rw[e]at this
  exact(ha g (hv g this hg)).2 j hj e
theorem Tqa.down{B':Nat}(h:Tqa av B T t w)(hB:B'<=B):Tqa av B' T t w:=by
 obtain⟨z,r,hp,hm,hr,ha⟩:=h
 exact⟨z,r,pt_up hp hB,hm,fun j hj=>Nat.le_trans hB (hr j hj),ha⟩
theorem Tqa.lies(h:Tqa av B T t w):∃aT cT,T= .slice aT t.length cT/\nd.Lies w.heap.size w aT t:=by
 obtain⟨z,r,hp,rfl,hr,ha⟩:=h
 obtain⟨aT,cT,e⟩:=hp.form
 subst e
 exact⟨aT,cT,by rw[List.length_map],hp.lies⟩
end
structure Lst(b B:Nat)(u:Value)(ps:List (List Nd))(v:Value)(w:World):Prop where
 lt:b<B
 row:∃vs:List Value,w.ownsRow B 26 1 u ps.length vs/\vs.length=ps.length/\∀i (h:i<ps.length) (h':i<vs.length),Tqa (fun k=>v.ownBlock=some k\/u.ownBlock=some k) B vs[i] ps[i] w
 off:∀k,v.ownBlock=some k->u.ownBlock≠some k
section
variable {w0:World} {l:List Tk} {a:Option Addr} {cap:Nat} {N0:List Tk} {s j:Nat} {bd:Bool} {b B:Nat} {u:Value} {ps:List (List Nd)} {v v':Value} {w w':World}
theorem own_same{e:TypeId}{size n:Nat}{xs:List Value}(h:w.ownsRow B e size u n xs)(h1:∀g,u.ownBlock=some g->w'.heap[g]? =w.heap[g]?):w'.ownsRow B e size u n xs:=by
 refine⟨h.1,h.2.elim .inl (fun⟨g,cap,cur,hv,hg,hblk,q⟩=> .inr ⟨g,cap,cur,hv,hg, ?_,q⟩)⟩
 rw[h1 g (by rw[hv];rfl)]
 exact hblk
theorem Lst.new(hS:Sq w0 l a cap N0 s j bd v w):Lst w0.heap.size w.heap.size (.slice (some ⟨w.heap.size,0,none⟩) 0 0) [] v (w.alloc (.cells #[] 26)):=
 ⟨hS.lt,⟨[],World.ownsRow_lit w #[] 0 (Nat.le_refl _) (by unfold maxLen;omega) rfl,rfl,fun i h=>by simp at h⟩,fun k hk e=>by
  have h1:=(World.ownsRow.lt hS.own k hk).2
  simp[Value.ownBlock]at e
  omega⟩
theorem Lst.go(h:Lst b B u ps v w)(e:Gr (X0 b) v v' w w'):Lst b B u ps v' w':=by
 obtain⟨vs,h1,h2,h3⟩:=h.row
 have hk:∀k,B<=k->k<w.heap.size->¬v.ownBlock=some k->w'.heap[k]? =w.heap[k]? :=fun k h1 h2 h3=>e.keep k h2 (by unfold X0;have:=h.lt;omega) (fun e=>h3 e.symm)
 have ul:∀g,u.ownBlock=some g->B<=g/\g<w.heap.size:=fun g hg=>World.ownsRow.lt h1 g hg
 refine⟨h.lt,⟨vs,own_same h1 (fun g hg=>hk g (ul g hg).1 (ul g hg).2 (fun e=>h.off g e hg)),h2,fun i hi hi'=> ?_⟩,fun k o hu=> ?_⟩
 ·have:=(h3 i hi hi').same e.size (fun k a1 a2 a3=>hk k a1 a2 (fun e=>a3 (.inl e)))
  obtain⟨z,r,hp,hm,hr,ha⟩:=h3 i hi hi'
  obtain⟨z',r',hp',hm',hr',ha'⟩:=this
  refine⟨z,r,pt_same hp e.size (fun g hg=> ?_) (fun j hj=> ?_),hm,hr,fun g hg=> ?_⟩
  ·have q:=World.ownsRow.lt hp.own g hg
   exact hk g q.1 q.2 (fun e=>(ha g (.inl e)).1 hg)
  ·exact hk _ (hr j hj) (hp.lt j hj) (fun e=>(ha _ (.inl e)).2 j hj rfl)
  ·rcases hg with hg|hg
   ·rcases e.own with e2|⟨g2,e2,hg2⟩
    ·exact ha g (.inl (by rw[<-e2];exact hg))
    ·rw[e2]at hg
     injection hg with hg
     subst hg
     exact⟨fun h3=>by have:=(World.ownsRow.lt hp.own g2 h3).2;omega,fun j hj h3=>by have:=hp.lt j hj;omega⟩
   ·exact ha g (.inr hg)
 ·rcases e.own with e2|⟨g2,e2,hg2⟩
  ·exact h.off k (by rw[<-e2];exact o) hu
  ·rw[e2]at o
   injection o with o
   subst o
   have:=(ul g2 hu).2
   omega
theorem Lst.keep(h:Lst b B u ps v w)(hb:Below w.heap.size w w'):Lst b B u ps v w':=h.go (Gr.quiet hb)
theorem Lst.form(h:Lst b B u ps v w):∃a' c',u= .slice a' ps.length c':=by
 obtain⟨vs,h1,h2,h3⟩:=h.row
 rcases h1.2 with ⟨hv,h0⟩|⟨g,cap,cur,hv,_⟩
 ·exact⟨none,0,by rw[hv,h0]⟩
 ·exact⟨_,cap,hv⟩
theorem Lst.parts{a':Option Addr}{n c':Nat}(h:Lst b B (.slice a' n c') ps v w):nd.Parts w.heap.size w a' ps:=by
 obtain⟨vs,h1,h2,h3⟩:=h.row
 rcases h1.2 with ⟨hv,h0⟩|⟨g,cap,cur,hv,hg,hblk,hl,hcm,hcs,htk⟩
 ·exact .inl (List.length_eq_zero_iff.1 h0)
 ·injection hv with e1 _ _
  subst e1
  have hlt:g<w.heap.size:=(World.ownsRow.lt h1 g rfl).2
  refine .inr ⟨g,0,rfl,hlt,fun i hi=> ?_⟩
  obtain⟨ai,ci,e,y⟩:=(h3 i hi (by omega)).lies
  refine⟨ai,ci, ?_,y⟩
  rw[Nat.zero_add,cell_of_row w g i _ _ _ hblk,<-e]
  have o:i<vs.length:=by omega
  have hq:vs[i]? =some vs[i]:=List.getElem?_eq_getElem o
  rw[<-hq]
  rw[<-htk,List.getElem?_take,if_pos (by omega)]
  simp
theorem Lst.low{g:Nat}(h:Lst b B u ps v w)(hg:g<B)(k:Nat)(x:Value):Lst b B u ps v (w.setCell ⟨g,k,none⟩ x):=by
 obtain⟨vs,h1,h2,h3⟩:=h.row
 have hk:∀k',k'≠g->(w.setCell ⟨g,k,none⟩ x).heap[k']? =w.heap[k']? :=fun k' h=>heap_setCell_other w ⟨g,k,none⟩ k' x h
 refine⟨h.lt,⟨vs,own_same h1 (fun g2 o=>hk _ (by have:=(World.ownsRow.lt h1 g2 o).1;omega)),h2,fun i hi hi'=>(h3 i hi hi').same (by simp) (fun k' a1 a2 a3=>hk k' (by omega))⟩,h.off⟩
end
theorem Tryz.infoNds:(Tryz.prog.info? 26).map (fun i=>(i.zero,i.size,i.bytes))=some (some (.slice none 0 0),1,24):=by kernel_rfl
section
variable {w0:World} {l:List Tk} {a:Option Addr} {cap:Nat} {N0:List Tk} {s j:Nat} {bd:Bool} {b B:Nat} {u:Value} {ps:List (List Nd)} {v v':Value} {w w' ws:World}
theorem Sq.grown(h:Sq w0 l a cap N0 s j bd v w)(hg:w.grownBy w' u.ownBlock)(hu:∀g,u.ownBlock=some g->w0.heap.size<g/\v.ownBlock≠some g):Sq w0 l a cap N0 s j bd v w':=by
 have hk:∀k,k<w.heap.size->¬u.ownBlock=some k->w'.heap[k]? =w.heap[k]? :=fun k h1 h2=>hg.block k h1 (fun e=>h2 e.symm)
 refine⟨⟨hg.os.trans h.bel.os,hg.tape.trans h.bel.tape,hg.output.trans h.bel.output,Nat.le_trans h.bel.size hg.size,fun k y=> ?_⟩, ?_, ?_,h.le,h.jn⟩
 ·have hlt:=h.lt
  exact(hk k (by omega) (fun e=>by have:=(hu k e).1;omega)).trans (h.bel.block k y)
 ·exact(hk _ h.box.lt (fun e=>by have:=(hu _ e).1;omega)).trans h.box
 ·refine own_same h.own (fun g o=>hk g (World.ownsRow.lt h.own g o).2 (fun e=>(hu g e).2 o))
theorem Gr.grown(h:Gr (X0 b) v v' ws w)(hg:w.grownBy w' u.ownBlock)(hu:∀g,u.ownBlock=some g->ws.heap.size<=g):Gr (X0 b) v v' ws w':=
 ⟨Nat.le_trans h.size hg.size,fun k hk hx hn=>(hg.block k (Nat.lt_of_lt_of_le hk h.size) (fun e=>by have:=hu k e.symm;omega)).trans (h.keep k hk hx hn),h.own⟩
theorem Lst.own_lt(h:Lst b B u ps v w):∀g,u.ownBlock=some g->b<g/\B<=g/\g<w.heap.size/\v.ownBlock≠some g:=fun g hg=>by
 obtain⟨vs,h1,h2,h3⟩:=h.row
 have:=World.ownsRow.lt h1 g hg
 have:=h.lt
 exact⟨by omega,by omega,by omega,fun e=>h.off g e hg⟩
theorem app_tree(w:World)(u:Value){ops:Array Oper}{rest:List Oper}{o:Oper}{ac:Act}{Q:Exit->Act->World->Prop}(hgd:o.guard=none)(x1 x2:Operand)
  (ho:o.op= .call {callee:= .builtin .append,args:= #[x1,x2],argTypes:= #[148,148]}) (aT:Option Addr) (nT cT:Nat) (t:List Nd) (B':Nat) (hs:ac.eval x1=u)
  (h:Lst b B u ps v w) (hT:Tq b B' (.slice aT nT cT) t v w) (hB':B<=B') (hu:∀g,u.ownBlock=some g->g<B') (hx:ac.eval x2= .slice (some ⟨w.heap.size,0,none⟩) 1 1) (hn:ps.length<=1000) (hB:B<=w.heap.size) (hv:∀k,v.ownBlock=some k->k<w.heap.size)
  (k:∀g9 c9 w',Lst b B (.slice (some ⟨g9,0,none⟩) (ps.length+1) c9) (ps++[t]) v w'->w.grownBy w' u.ownBlock->wpList Tryz.prog ops Q rest (ac.put o.dst (.slice (some ⟨g9,0,none⟩) (ps.length+1) c9)) w'):
  wpList Tryz.prog ops Q (o::rest) ac (w.alloc (.cells #[.slice aT nT cT] 26)):=by
 obtain⟨i0,hi,H,J,G⟩:=info_parts Tryz.infoNds
 obtain⟨vs,h1,h2,h3⟩:=h.row
 obtain⟨_,z,r,hp,hm,hr,ha⟩:=hT
 have hal:∀k,k<w.heap.size->(w.alloc (.cells #[.slice aT nT cT] 26)).heap[k]? =w.heap[k]? :=fun k hk=>Below.heap_alloc w _ k hk
 have K:=own_same (w':=w.alloc (.cells #[.slice aT nT cT] 26)) h1 (fun g hg=>hal g (World.ownsRow.lt h1 g hg).2)
 refine wpList_append_lies _ hgd x1 x2 148 ho B 26 i0 _ 1 24 Tryz.underlying148 hi H J G rfl (by decide) u ps.length vs hs K ⟨w.heap.size,0,none⟩ 1 1 [.slice aT nT cT] hx rfl ?_ ?_ (by decide) (by unfold maxLen;omega) (by omega) (by simp;omega) (w.heap.size+1) (by simp) ?_
 ·intro i q hq
  rw[show((⟨w.heap.size,0,none⟩:Addr).add i)=⟨w.heap.size,i,none⟩ by unfold Addr.add;split<;>simp_all]
  rw[cell_of_row _ w.heap.size i _ _ _ (heap_alloc_new w _)]
  simpa using hq
 ·intro q hq
  simp at hq
  subst hq
  rfl
 ·intro g c w' hown' hg hor hlt
  have F:w.grownBy w' u.ownBlock:=⟨hg.os,hg.tape,hg.output,by have:=hg.size;simp at this;omega,fun k hk hne=>by rw[hg.block k (by simp;omega) hne];exact hal k hk⟩
  have hkeep:∀k,k<w.heap.size->¬u.ownBlock=some k->w'.heap[k]? =w.heap[k]? :=fun k hk hne=>F.block k hk (fun e=>hne e.symm)
  have hgu:∀k,k<w.heap.size->(Value.slice (some ⟨g,0,none⟩) (ps.length+1) c).ownBlock=some k->u.ownBlock=some k:=fun k hk e=>by
   simp[Value.ownBlock]at e
   subst e
   rcases hor with e2|e2
   ·exact e2
   ·omega
  refine k g c w' ⟨h.lt,⟨vs++[.slice aT nT cT],by rw[List.length_append];exact hown',by rw[List.length_append,List.length_append,h2];rfl,fun i hi hi'=> ?_⟩,fun k hk N=> ?_⟩ F
  ·rw[List.length_append,List.length_singleton]at hi
   by_cases he:i<ps.length
   ·rw[List.getElem_append_left he,List.getElem_append_left (by omega)]
    obtain⟨z1,r1,D,O,P,C⟩:=h3 i he (by omega)
    have ol:=fun g hg=>World.ownsRow.lt D.own g hg
    refine⟨z1,r1,pt_same D F.size (fun g2 A=>hkeep g2 (ol g2 A).2 (fun e=>(C g2 (.inr e)).1 A)) (fun j hj=>hkeep _ (D.lt j hj) (fun e=>(C _ (.inr e)).2 j hj rfl)),O,P,fun k2 y=> ?_⟩
    rcases Nat.lt_or_ge k2 w.heap.size with hlt2|hge2
    ·rcases y with y|y
     ·exact C k2 (.inl y)
     ·exact C k2 (.inr (hgu k2 hlt2 y))
    ·exact⟨fun e=>by have:=(ol k2 e).2;omega,fun j hj e=>by have:=D.lt j hj;omega⟩
   ·obtain rfl:i=ps.length:=by omega
    have e1:(vs++[Value.slice aT nT cT])[ps.length]'hi'= .slice aT nT cT:=by rw[List.getElem_append_right (by omega)];simp[h2]
    have e2:(ps++[t])[ps.length]'(by simp)=t:=by simp
    rw[e1,e2]
    have ol:=fun g hg=>World.ownsRow.lt hp.own g hg
    refine⟨z,r,pt_up (pt_same hp F.size (fun g2 A=>hkeep g2 (ol g2 A).2 (fun e=>by have:=hu g2 e;have:=(ol g2 A).1;omega)) (fun j hj=>hkeep _ (hp.lt j hj) (fun e=>by have:=hu _ e;have:=hr j hj;omega))) hB',hm,fun j hj=>Nat.le_trans hB' (hr j hj),fun k2 y=> ?_⟩
    rcases Nat.lt_or_ge k2 w.heap.size with hlt2|hge2
    ·rcases y with y|y
     ·exact ha k2 y
     ·have:=hu k2 (hgu k2 hlt2 y)
      exact⟨fun e=>by have:=(ol k2 e).1;omega,fun j hj e=>by have:=hr j hj;omega⟩
    ·exact⟨fun e=>by have:=(ol k2 e).2;omega,fun j hj e=>by have:=hp.lt j hj;omega⟩
  ·exact h.off k hk (hgu k (hv k hk) N)
end
open Lib (hid)
open rt (isLval)
open operand (begins)
open lv (opLevel levelOf has)
open pr (Bk Gr X0 below_drewN eq_facts ne_facts fld_k fld_s)
section
variable {w0:World} {l:List Tk} {a:Option Addr} {cap:Nat} {N0:List Tk} {s j:Nat} {v:Value} {E:Ps->Nat->R} {M:Nat}
theorem fld_x(x0 x1:Value)(w:World):(Instr.field 95 (.agg #[x0,x1]) 0).run Tryz.prog w= .ok x0 w:=by rfl
def wkP(K:Nat)(ps:List (List Nd)):Prop:=ps.length<=6/\(∀q∈ps,∀n∈q,n.kids.length<=6)/\nd.sumL ps<=K
theorem wkp_snoc{K K':Nat}{ps:List (List Nd)}{t:List Nd}(h:wkP K ps)(hl:ps.length<6)(ht:Wk K' t):wkP (K+K') (ps++[t]):=by
 refine⟨by simp;omega,fun q hq n hn=> ?_,by rw[sum_snoc];have:=h.2.2;have:=ht.1;omega⟩
 rcases List.mem_append.1 hq with hq|hq
 ·exact h.2.1 q hq n hn
 ·rw[List.mem_singleton]at hq;subst hq;exact ht.2 n hn
theorem wkp_mono{K K':Nat}{ps:List (List Nd)}(h:wkP K ps)(hK:K<=K'):wkP K' ps:=⟨h.1,h.2.1,Nat.le_trans h.2.2 hK⟩
def Lend(l:List Tk)(k:Int):P->Nat×Bool
 | .bad m=>(m,true)
 | .ok _ m=>if kd l m=k then(m+1,false)else(m,true)
def Lex(l:List Tk)(k:Int):P->Option (List (List Nd))
 | .bad _=>none
 | .ok ps m=>if kd l m=k then some ps else none
def Lr(w0:World)(l:List Tk)(a:Option Addr)(cap:Nat)(N0:List Tk)(s j:Nat)(v:Value)(w:World)(r:Nat×Bool)(x:Option (List (List Nd)))(e:Ending)(w':World):Prop:=
 ∃(a':Option Addr) (c':Nat) (ps:List (List Nd)) (v':Value),e= .returned (.slice a' ps.length c')/\Sq w0 l a cap N0 s r.1 r.2 v' w'/\Gr (X0 w0.heap.size) v v' w w'/\Lst w0.heap.size w.heap.size (.slice a' ps.length c') ps v' w'/\wkP (2*(r.1-j)) ps/\∀qs,x=some qs->ps=qs
def msr(n b:Nat)(w:World):Nat:=match w.cell? ⟨b,2,none⟩with
 |some (.bool true)=>0
 |_=>1+(n-atOf b w)
theorem msr_of{w0:World}{a:Option Addr}{cap:Nat}{N0:List Tk}{s j:Nat}{bd:Bool}{v:Value}{w:World}(h:Sq w0 l a cap N0 s j bd v w):msr l.length w0.heap.size w=if bd=true then 0 else 1+(l.length-j):=by
 unfold msr
 rw[h.c.2.2.1,at_of h]
 cases bd<;>rfl
theorem els_bad{g m m1:Nat}{ps:List (List Nd)}(h:E top m= .bad m1):els E l 6 (g+1) ps m= .bad m1:=by
 unfold els;rw[h]
theorem els_ok1{g m m1:Nat}{ps:List (List Nd)}{lv:Int}{tg:Bool}{t:List Nd}(h:E top m= .ok lv tg t m1)(h2:ps.length+1=6\/¬kd l m1=36):els E l 6 (g+1) ps m= .ok (ps++[t]) m1:=by
 unfold els;rw[h];exact if_pos h2
theorem els_ok2{g m m1:Nat}{ps:List (List Nd)}{lv:Int}{tg:Bool}{t:List Nd}(h:E top m= .ok lv tg t m1)(h2:¬(ps.length+1=6\/¬kd l m1=36)):els E l 6 (g+1) ps m=els E l 6 g (ps++[t]) (sk l (m1+1)):=by
 conv=>lhs;unfold els
 rw[h];exact if_neg h2
def RelLi(w0:World)(l:List Tk)(a:Option Addr)(cap:Nat)(N0:List Tk)(s j:Nat)(E:Ps->Nat->R)(k:Int)(LP:P)(v:Value)(w:World)(u:Value)(wr:World):Prop:=
 ∃(ps:List (List Nd)) (m:Nat) (bd:Bool) (v':Value) (gu cu:Nat),u= .slice (some ⟨gu,0,none⟩) ps.length cu/\Sq w0 l a cap N0 s m bd v' wr/\Gr (X0 w0.heap.size) v v' w wr/\Lst w0.heap.size w.heap.size u ps v' wr/\wkP (2*(m-j)) ps/\j<=m/\((bd=true/\Lend l k LP=(m,true)/\Lex l k LP=none)\/(bd=false/\ps.length<6/\LP=els E l 6 (6-ps.length) ps m))
set_option maxHeartbeats 12800000 in
theorem list_run(k least:Int)(w:World)(hst:Sq w0 l a cap N0 s j false v w)(hc:tk.Lies w0.heap.size w0 a l)(hl:l.length<=6000)(hE:CallS w0 l a cap N0 s E j)(oE:∀p i,i<=l.length->Ok M l i (E p i))(hN0:N0.length+l.length<=200000)(hk:k=33\/k=35)(hs:least=1\/(least=0/\¬kd l j=k)):
  Calls Tryz.prog 176 #[.pointer (some ⟨w0.heap.size,0,none⟩),.int .i64 k,.int .i64 least] w (Lr w0 l a cap N0 s j v w (Lend l k (els E l 6 6 [] j)) (Lex l k (els E l 6 6 [] j))):=by
 have HC:=hid hc
 have HL:=hid (show l.length<=100000 by omega)
 have bn:=hid hl
 have HE:=hid hE
 have OE:=hid oE
 have a3:=hid hN0
 have HKK:=hid hk
 have HLT:=hid hst.lt
 have HK:=hid (kind_any w hst hc (by omega))
 have hfx:=fld_x
 have HST:=hid hst
 have HJN:=hid hst.jn
 obtain⟨LP,hLP⟩:∃LP,LP=els E l 6 6 [] j:=⟨_,rfl⟩
 rw[<-hLP]
 have HLP:=hid hLP
 obtain⟨W,hW⟩:∃W,W=w.alloc (.cells #[] 26):=⟨_,rfl⟩
 have hB:Below w.heap.size w W:=by rw[hW];exact(Below.refl _ _).alloc (Nat.le_refl _) _
 have S0:=hid (hst.keep hB)
 have G0:=hid (show Gr (X0 w0.heap.size) v v w W from Gr.quiet hB)
 have L0:=hid (show Lst w0.heap.size w.heap.size (.slice (some ⟨w.heap.size,0,none⟩) 0 0) [] v W by rw[hW];exact Lst.new hst)
 have HREL:=hid (fun W2 (b:Below W.heap.size W W2)=>(⟨[],j,false,v,w.heap.size,0,rfl,S0.keep b,G0.trans (Gr.quiet b),L0.keep b,⟨by simp,fun q hq=>by simp at hq,by simp[nd.sumL]⟩,Nat.le_refl _,.inr ⟨rfl,by simp,hLP⟩⟩:RelLi w0 l a cap N0 s j E k LP v w (.slice (some ⟨w.heap.size,0,none⟩) 0 0) W2))
 have aZ:=hid (kind_any W S0.out hc (by omega))
 clear hst hc hl hE oE hN0 hk hB hLP
 have hgo:∀W2,Below W.heap.size W W2->True:=fun _ _=>trivial
 clear hgo
 rcases hs with rfl|⟨rfl,hne⟩
 ·
  have c1:=S0.c
  rw[hW]at c1
  go_enter Tryz.func176,Tryz.ntmps176
  go_wp2
  rw[<-hW]
  clear c1 hW
  have bj:=hid (HREL.out W (Below.refl _ _))
  clear aZ HK HREL
  go_loopw [7] (fun u wr=>RelLi w0 l a cap N0 s j E k LP v w u wr) (fun _ wr=>msr l.length w0.heap.size wr)
  case round=>
   obtain⟨ps,m,bd,vr,gu,cu,rfl,hs,hg,hL,hwk,hjm,hway⟩:=hrel
   have Sr:=hid hs
   have Gr':=hid hg
   have Lr':=hid hL
   have HWK:=hid hwk
   have HJM:=hid hjm
   have HMS:=hid (msr_of hs)
   have HMN:=hid hs.jn
   clear hs hg hL hwk hjm
   rcases hway with ⟨rfl,hle,hlx⟩|⟨rfl,hps,hel⟩
   ·
    have HLE:=hid hle
    have HLX:=hid hlx
    clear hle hlx
    have ah:=hid (show wkP (2*((Lend l k LP).1-j)) ps by rw[HLE.out];exact HWK.out)
    have c5:=Sr.c
    go_wp2_with fail
    clear c5
    refine(take_no k _ Sr.out HC.out HL.out (by have:=HKK.out;omega) (by have:=HKK.out;omega) (.inl rfl)).mono ?_
    rintro e w9 ⟨rfl,aC,ao⟩
    have aW:=hid aC
    have bf:=hid (Lr'.go ao)
    have bh:=hid (Gr'.trans ao)
    clear aC ao
    go_wp2
    go_ret
    refine⟨some ⟨gu,0,none⟩,cu,ps,vr,rfl,(by rw[HLE.out];exact aW.out),bh.out,bf.out,ah.out,(fun qs h=>by rw[HLX.out]at h;cases h)⟩
   ·
    obtain⟨gq,hgq⟩:∃gq,6-ps.length=gq+1:=⟨5-ps.length,by omega⟩
    rw[hgq]at hel
    have HEL:=hid hel
    have HGQ:=hid hgq
    have HPS:=hid hps
    clear hel hgq hps
    obtain⟨RY,hRY⟩:∃R,E top m=R:=⟨_,rfl⟩
    have HRY:=hid hRY
    have ORY:=hid (show Ok M l m RY by rw[<-hRY];exact OE.out _ _ HMN.out)
    clear hRY
    have HOY:=hid (ok_at ORY.out)
    have c5:=Sr.c
    go_wp2_with fail
    clear c5
    refine(_root_.Go.Proofs.YtebjmdpkobhcbaaGreatDoor.ps.spec_top _).mono ?_
    rintro e w9 ⟨rfl,ak⟩
    have aB:=hid (Sr.keep ak)
    have aD:=hid (Lr'.keep ak)
    have a9:=hid (Gr'.trans (Gr.quiet ak))
    clear ak
    have aO:=aB.c
    go_wp2_with fail
    clear aO
    have HOL:=hid aD.own_lt
    have aS:=hid (show w.heap.size<=w9.heap.size from a9.size)
    refine(show Calls _ _ _ _ (Rq w0 l a cap N0 s m vr w9 RY) by rw[<-HRY.out];exact HE.out 1 false false false m vr w9 (by decide) (by decide) (by have:=HJM.out;omega) aB.out).mono ?_
    rintro e bi ⟨T,N,bl,O,rfl,s9,aq,t9,aH⟩
    have a5:=hid s9
    have aG:=hid (aD.go aq)
    have a6:=hid (a9.trans aq)
    have bc:=hid t9
    have aa:=hid aH
    obtain⟨aY,aN,rfl,bk⟩:=t9.lies
    clear s9 t9 aq aH bk
    have HWY:=hid (gt_wk aa.out ORY.out)
    have HBW:=hid (show w.heap.size<=bi.heap.size from a6.size)
    have HWP:=hid (wkp_snoc HWK.out HPS.out HWY.out)
    have HUL:=hid (aG.own_lt)
    have HVN:=hid (fun k (h:O.ownBlock=some k)=>(World.ownsRow.lt a5.own k h).2)
    have HPL:=hid (show ps.length<=1000 by have:=HPS.out;omega)
    go_wp2_with (refine app_tree _ (.slice (some ⟨gu,0,none⟩) ps.length cu) rfl _ _ rfl aY N.length aN N _ rfl aG.out bc.out aS.out (fun g h=>(HOL.out g h).2.2.1) rfl HPL.out HBW.out HVN.out ?_;intro g9 c9 w9 L9 ay)
    have K:=hid (a5.grown ay (fun g h=>⟨(HUL.out g h).1,(HUL.out g h).2.2.2⟩))
    have ag:=hid (Gr.grown a6.out ay (fun g h=>(HUL.out g h).2.1))
    have ai:=hid L9
    clear L9 ay
    obtain⟨c,hcc⟩:∃c,kd l (atQ RY)=c:=⟨_,rfl⟩
    have HCC:=hid hcc
    have ac:=hid (kind_any _ K.out HC.out HL.out)
    rw[hcc]at ac
    have HAL:=hid (show m<=atQ RY/\atQ RY<=l.length from HOY.out)
    by_cases Z:c=36
    case pos=>
     subst Z
     clear hcc
     by_cases h6:ps.length+1=6
     case pos=>
      have HLL:=hid (show Lend l k LP=(atQ RY,true)/\Lex l k LP=none by
       rw[HEL.out]
       have hcc:=HCC.out
       have hry:=HRY.out
       have hkk:=HKK.out
       clear HWY HWP HOY HAL ORY HCC HRY aa
       cases RY with
       |bad m1=>rw[els_bad hry];exact⟨rfl,rfl⟩
       |ok lv tg t m1=>
        rw[els_ok1 hry (.inl h6)]
        have:¬kd l m1=k:=by rw[show kd l m1=36 from hcc];omega
        exact⟨if_neg this,if_neg this⟩)
      have q6:((ps.length:Int)+1==6)=true:=by rw[beq_iff_eq];omega
      have hlen:ps.length=5:=by omega
      clear h6
      have aR:=hid hlen
      clear hlen q6
      have q6:((ps.length:Int)+1==6)=true:=by have:=aR.out;rw[beq_iff_eq];omega
      have J:=K.c
      go_wp2_with fail
      clear J
      refine(ac.out).mono ?_
      rintro e ab ⟨rfl,o⟩
      have y:=hid (K.keep o)
      have G:=hid (ai.keep o)
      have H:=hid (ag.trans (Gr.quiet o))
      clear o
      have F:=y.c
      have aT:=y.f
      obtain⟨a8,af⟩:∃W,W=ab.setCell ⟨w0.heap.size,2,none⟩ (.bool true):=⟨_,rfl⟩
      have a7:=hid (show Sq w0 l a cap N0 s (atQ RY) true O a8 by rw[af];exact y.bad)
      have az:Gr (X0 w0.heap.size) O O ab a8:=by rw[af];exact Gr.box rfl 2 _
      have aM:=hid (G.go az)
      have be:=hid (H.trans az)
      clear az
      have aF:=a7.c
      rw[af]at aF
      go_wp2_with fail
      rw[<-af]
      clear F aT aF af
      refine(take_no 36 _ a7.out HC.out HL.out (by decide) (by decide) (.inl rfl)).mono ?_
      rintro e bm ⟨rfl,aJ,am⟩
      have aK:=hid aJ
      have bg:=hid (aM.go am)
      have aU:=hid (be.trans am)
      clear aJ am
      have aQ:=aK.c
      go_wp2_with fail
      clear aQ
      refine(lines_any _ aK.out HC.out HL.out a3.out).mono ?_
      rintro e ba ⟨rfl,aI,aE,aw⟩
      have an:=hid (show Sq w0 l a cap N0 s (atQ RY) true aI ba from aE)
      have aX:=hid (bg.go aw)
      have aP:=hid (aU.trans aw)
      clear aE aw
      have aV:=an.c
      go_wp2
      clear aV
      go_roundw
      case rel=>exact⟨_,atQ RY,true,aI,g9,c9,by simp,an.out,aP.out,aX.out,wkp_mono HWP.out (by have:=HAL.out;have:=HJM.out;omega),by have:=HAL.out;have:=HJM.out;omega,.inl ⟨rfl,HLL.out.1,HLL.out.2⟩⟩
      case measure=>rw[msr_of an.out,HMS.out];simp;try omega
     case neg=>
      have aA:=hid h6
      have q6:((ps.length:Int)+1==6)=false:=by rw[beq_eq_false_iff_ne];omega
      clear h6
      by_cases hbd:bdQ RY=true
      case pos=>
       have HLL:=hid (show Lend l k LP=(atQ RY,true)/\Lex l k LP=none by
        rw[HEL.out]
        have hry:=HRY.out
        clear HWY HWP HOY HAL ORY HCC HRY aa
        cases RY with
        |bad m1=>rw[els_bad hry];exact⟨rfl,rfl⟩
        |ok lv tg t m1=>cases hbd)
       have HBD:=hid hbd
       clear hbd
       have J:=K.c
       go_wp2_with fail
       clear J
       refine(ac.out).mono ?_
       rintro e ab ⟨rfl,o⟩
       have y:=hid (K.keep o)
       have G:=hid (ai.keep o)
       have H:=hid (ag.trans (Gr.quiet o))
       clear o
       have F:=y.c
       go_wp2_with fail
       clear F
       refine(take_no 36 _ y.out HC.out HL.out (by decide) (by decide) (.inl HBD.out)).mono ?_
       rintro e a2 ⟨rfl,C,A⟩
       have D:=hid C
       have P:=hid (G.go A)
       have V:=hid (H.trans A)
       clear C A
       have a0:=D.c
       go_wp2_with fail
       clear a0
       refine(lines_any _ D.out HC.out HL.out a3.out).mono ?_
       rintro e au ⟨rfl,ae,ad,Q⟩
       have U:=hid (show Sq w0 l a cap N0 s (atQ RY) true ae au from ad)
       have al:=hid (P.go Q)
       have ap:=hid (V.trans Q)
       clear ad Q
       have a1:=U.c
       go_wp2
       clear a1
       go_roundw
       case rel=>exact⟨_,atQ RY,true,ae,g9,c9,by simp,U.out,ap.out,al.out,wkp_mono HWP.out (by have:=HAL.out;have:=HJM.out;omega),by have:=HAL.out;have:=HJM.out;omega,.inl ⟨rfl,HLL.out.1,HLL.out.2⟩⟩
       case measure=>rw[msr_of U.out,HMS.out];simp;try omega
      case neg=>
       obtain⟨lv,tg,t0,m1,hry⟩:∃lv tg t m1,RY= .ok lv tg t m1:=by
        cases RY with
        |bad m1=>exact absurd rfl hbd
        |ok lv tg t m1=>exact⟨lv,tg,t,m1,rfl⟩
       clear hbd
       subst hry
       have ax:=hid (show N=t0 from aa.out.1)
       have aj:=hid (HEL.trans (els_ok2 HRY.out (by have h1:=aA.out;have h2:=HCC.out;intro h;rcases h with h|h;exact h1 h;exact h h2)))
       have aL:=hid (kd_lt (l:=l) (i:=m1) (by have:kd l m1=36:=HCC.out;omega))
       have Sz:=hid (show Sq w0 l a cap N0 s m1 false O w9 from K.out)
       have HSK:=hid (sk_le (l:=l) (i:=m1+1) aL.out)
       have ar:=hid (show m<=m1/\m1<=l.length from HAL.out)
       have bb:=hid (show wkP (2*(m-j)+2*(m1-m)) (ps++[N])from HWP.out)
       have J:=Sz.c
       go_wp2_with fail
       clear J
       refine(ac.out).mono ?_
       rintro e ab ⟨rfl,o⟩
       have y:=hid (Sz.keep o)
       have G:=hid (ai.keep o)
       have H:=hid (ag.trans (Gr.quiet o))
       clear o
       have F:=y.c
       go_wp2_with fail
       clear F
       refine(take_yes 36 _ y.out HC.out HL.out (by decide) (by decide) HCC.out).mono ?_
       rintro e a2 ⟨rfl,C,A⟩
       have D:=hid C
       have P:=hid (G.go A)
       have V:=hid (H.trans A)
       clear C A
       have a0:=D.c
       go_wp2_with fail
       clear a0
       refine(lines_any _ D.out HC.out HL.out a3.out).mono ?_
       rintro e au ⟨rfl,ae,ad,Q⟩
       have U:=hid (show Sq w0 l a cap N0 s (sk l (m1+1)) false ae au from ad)
       have al:=hid (P.go Q)
       have ap:=hid (V.trans Q)
       clear ad Q
       have a1:=U.c
       go_wp2
       clear a1
       go_roundw
       case rel=>exact⟨_,sk l (m1+1),false,ae,g9,c9,by simp,U.out,ap.out,al.out,wkp_mono bb.out (by have:=ar.out;have:=HJM.out;have:=HSK.out;omega),by have:=ar.out;have:=HJM.out;have:=HSK.out;omega,.inr ⟨rfl,by have:=aA.out;have:=HPS.out;simp;omega,by rw[ax.out,show 6-(ps++[t0]).length=gq by have:=HGQ.out;simp;omega];exact aj.out⟩⟩
       case measure=>rw[msr_of U.out,HMS.out];have:=HSK.out;have:=ar.out;have:=aL.out;simp;omega
    case neg=>
     obtain⟨q1,q2⟩:=ne_facts Z
     have a4:=hid Z
     clear Z hcc
     by_cases hA:bdQ RY=false/\c=k
     case pos=>
      obtain⟨hbd,hck⟩:=hA
      obtain⟨lv,tg,t0,m1,hry⟩:∃lv tg t m1,RY= .ok lv tg t m1:=by
       cases RY with
       |bad m1=>cases hbd
       |ok lv tg t m1=>exact⟨lv,tg,t,m1,rfl⟩
      clear hbd
      subst hry
      have ax:=hid (show N=t0 from aa.out.1)
      have HCK:=hid (show kd l m1=k from HCC.trans hck)
      have aj:=hid (HEL.trans (els_ok1 HRY.out (.inr (by have h1:=a4.out;have h2:kd l m1=c:=HCC.out;rw[h2];exact h1))))
      have Sz:=hid (show Sq w0 l a cap N0 s m1 false O w9 from K.out)
      have HLE:=hid (show Lend l k LP=(m1+1,false) by rw[aj.out];exact if_pos HCK.out)
      have HLX:=hid (show Lex l k LP=some (ps++[t0]) by rw[aj.out];exact if_pos HCK.out)
      have ah:=hid (show wkP (2*((Lend l k LP).1-j)) (ps++[N]) by rw[HLE.out];exact wkp_mono HWP.out (by have:=HAL.out;have:=HJM.out;simp only[atQ]at*;omega))
      clear hck
      have J:=Sz.c
      go_wp2_with fail
      clear J
      refine(ac.out).mono ?_
      rintro e ab ⟨rfl,o⟩
      have y:=hid (Sz.keep o)
      have G:=hid (ai.keep o)
      have H:=hid (ag.trans (Gr.quiet o))
      clear o
      have F:=y.c
      go_wp2_with fail
      clear F
      refine(take_yes k _ y.out HC.out HL.out (by have:=HKK.out;omega) (by have:=HKK.out;omega) HCK.out).mono ?_
      rintro e a2 ⟨rfl,C,A⟩
      have D:=hid C
      have P:=hid (G.go A)
      have V:=hid (H.trans A)
      clear C A
      go_wp2
      go_ret
      refine⟨some ⟨g9,0,none⟩,c9,ps++[N],O,by simp,(by rw[HLE.out];exact D.out),V.out,by have:=P.out;simpa using this,ah.out,(fun qs h=>by rw[HLX.out]at h;injection h with h;rw[<-h,ax.out])⟩
     case neg=>
      have HLL:=hid (show Lend l k LP=(atQ RY,true)/\Lex l k LP=none by
       rw[HEL.out]
       have hcc:=HCC.out
       have hry:=HRY.out
       have Z:=a4.out
       clear HWY HWP HOY HAL ORY HCC HRY aa
       cases RY with
       |bad m1=>rw[els_bad hry];exact⟨rfl,rfl⟩
       |ok lv tg t m1=>
        have hcc:kd l m1=c:=hcc
        rw[els_ok1 hry (.inr (by rw[hcc];exact Z))]
        have:¬kd l m1=k:=fun h=>hA ⟨rfl,by rw[<-hcc];exact h⟩
        exact⟨if_neg this,if_neg this⟩)
      have ah:=hid (show wkP (2*((Lend l k LP).1-j)) (ps++[N]) by rw[HLL.out.1];exact wkp_mono HWP.out (by have:=HAL.out;have:=HJM.out;show _<=2*(atQ RY-j);omega))
      have HNA:=hid (show bdQ RY=true\/¬kd l (atQ RY)=k by
       rw[HCC.out]
       cases hb:bdQ RY with
       |true=>exact .inl rfl
       |false=>exact .inr (fun h=>hA ⟨hb,h⟩))
      clear hA
      have J:=K.c
      go_wp2_with fail
      clear J
      refine(ac.out).mono ?_
      rintro e ab ⟨rfl,o⟩
      have y:=hid (K.keep o)
      have G:=hid (ai.keep o)
      have H:=hid (ag.trans (Gr.quiet o))
      clear o
      have F:=y.c
      go_wp2_with fail
      clear F
      refine(take_no k _ y.out HC.out HL.out (by have:=HKK.out;omega) (by have:=HKK.out;omega) HNA.out).mono ?_
      rintro e a2 ⟨rfl,C,A⟩
      have D:=hid C
      have P:=hid (G.go A)
      have V:=hid (H.trans A)
      clear C A
      go_wp2
      go_ret
      refine⟨some ⟨g9,0,none⟩,c9,ps++[N],O,by simp,(by rw[HLL.out.1];exact D.out),V.out,by have:=P.out;simpa using this,ah.out,(fun qs h=>by rw[HLL.out.2]at h;cases h)⟩
  case atStart=>exact bj.out
 ·
  obtain⟨c,hcc⟩:∃c,kd l j=c:=⟨_,rfl⟩
  rw[hcc]at aZ hne
  obtain⟨q1,q2⟩:=ne_facts hne
  clear hne hcc
  have c1:=S0.c
  rw[hW]at c1
  go_enter Tryz.func176,Tryz.ntmps176
  go_wp2_with fail
  rw[<-hW]
  clear c1 hW
  refine aZ.mono ?_
  rintro e w1 ⟨rfl,b1⟩
  have bj:=hid (HREL.out w1 b1)
  clear HK HREL b1
  go_wp2
  go_loopw [7] (fun u wr=>RelLi w0 l a cap N0 s j E k LP v w u wr) (fun _ wr=>msr l.length w0.heap.size wr)
  case round=>
   obtain⟨ps,m,bd,vr,gu,cu,rfl,hs,hg,hL,hwk,hjm,hway⟩:=hrel
   have Sr:=hid hs
   have Gr':=hid hg
   have Lr':=hid hL
   have HWK:=hid hwk
   have HJM:=hid hjm
   have HMS:=hid (msr_of hs)
   have HMN:=hid hs.jn
   clear hs hg hL hwk hjm
   rcases hway with ⟨rfl,hle,hlx⟩|⟨rfl,hps,hel⟩
   ·
    have HLE:=hid hle
    have HLX:=hid hlx
    clear hle hlx
    have ah:=hid (show wkP (2*((Lend l k LP).1-j)) ps by rw[HLE.out];exact HWK.out)
    have c5:=Sr.c
    go_wp2_with fail
    clear c5
    refine(take_no k _ Sr.out HC.out HL.out (by have:=HKK.out;omega) (by have:=HKK.out;omega) (.inl rfl)).mono ?_
    rintro e w9 ⟨rfl,aC,ao⟩
    have aW:=hid aC
    have bf:=hid (Lr'.go ao)
    have bh:=hid (Gr'.trans ao)
    clear aC ao
    go_wp2
    go_ret
    refine⟨some ⟨gu,0,none⟩,cu,ps,vr,rfl,(by rw[HLE.out];exact aW.out),bh.out,bf.out,ah.out,(fun qs h=>by rw[HLX.out]at h;cases h)⟩
   ·
    obtain⟨gq,hgq⟩:∃gq,6-ps.length=gq+1:=⟨5-ps.length,by omega⟩
    rw[hgq]at hel
    have HEL:=hid hel
    have HGQ:=hid hgq
    have HPS:=hid hps
    clear hel hgq hps
    obtain⟨RY,hRY⟩:∃R,E top m=R:=⟨_,rfl⟩
    have HRY:=hid hRY
    have ORY:=hid (show Ok M l m RY by rw[<-hRY];exact OE.out _ _ HMN.out)
    clear hRY
    have HOY:=hid (ok_at ORY.out)
    have c5:=Sr.c
    go_wp2_with fail
    clear c5
    refine(_root_.Go.Proofs.YtebjmdpkobhcbaaGreatDoor.ps.spec_top _).mono ?_
    rintro e w9 ⟨rfl,ak⟩
    have aB:=hid (Sr.keep ak)
    have aD:=hid (Lr'.keep ak)
    have a9:=hid (Gr'.trans (Gr.quiet ak))
    clear ak
    have aO:=aB.c
    go_wp2_with fail
    clear aO
    have HOL:=hid aD.own_lt
    have aS:=hid (show w.heap.size<=w9.heap.size from a9.size)
    refine(show Calls _ _ _ _ (Rq w0 l a cap N0 s m vr w9 RY) by rw[<-HRY.out];exact HE.out 1 false false false m vr w9 (by decide) (by decide) (by have:=HJM.out;omega) aB.out).mono ?_
    rintro e bi ⟨T,N,bl,O,rfl,s9,aq,t9,aH⟩
    have a5:=hid s9
    have aG:=hid (aD.go aq)
    have a6:=hid (a9.trans aq)
    have bc:=hid t9
    have aa:=hid aH
    obtain⟨aY,aN,rfl,bk⟩:=t9.lies
    clear s9 t9 aq aH bk
    have HWY:=hid (gt_wk aa.out ORY.out)
    have HBW:=hid (show w.heap.size<=bi.heap.size from a6.size)
    have HWP:=hid (wkp_snoc HWK.out HPS.out HWY.out)
    have HUL:=hid (aG.own_lt)
    have HVN:=hid (fun k (h:O.ownBlock=some k)=>(World.ownsRow.lt a5.own k h).2)
    have HPL:=hid (show ps.length<=1000 by have:=HPS.out;omega)
    go_wp2_with (refine app_tree _ (.slice (some ⟨gu,0,none⟩) ps.length cu) rfl _ _ rfl aY N.length aN N _ rfl aG.out bc.out aS.out (fun g h=>(HOL.out g h).2.2.1) rfl HPL.out HBW.out HVN.out ?_;intro g9 c9 w9 L9 ay)
    have K:=hid (a5.grown ay (fun g h=>⟨(HUL.out g h).1,(HUL.out g h).2.2.2⟩))
    have ag:=hid (Gr.grown a6.out ay (fun g h=>(HUL.out g h).2.1))
    have ai:=hid L9
    clear L9 ay
    obtain⟨c,hcc⟩:∃c,kd l (atQ RY)=c:=⟨_,rfl⟩
    have HCC:=hid hcc
    have ac:=hid (kind_any _ K.out HC.out HL.out)
    rw[hcc]at ac
    have HAL:=hid (show m<=atQ RY/\atQ RY<=l.length from HOY.out)
    by_cases Z:c=36
    case pos=>
     subst Z
     clear hcc
     by_cases h6:ps.length+1=6
     case pos=>
      have HLL:=hid (show Lend l k LP=(atQ RY,true)/\Lex l k LP=none by
       rw[HEL.out]
       have hcc:=HCC.out
       have hry:=HRY.out
       have hkk:=HKK.out
       clear HWY HWP HOY HAL ORY HCC HRY aa
       cases RY with
       |bad m1=>rw[els_bad hry];exact⟨rfl,rfl⟩
       |ok lv tg t m1=>
        rw[els_ok1 hry (.inl h6)]
        have:¬kd l m1=k:=by rw[show kd l m1=36 from hcc];omega
        exact⟨if_neg this,if_neg this⟩)
      have q6:((ps.length:Int)+1==6)=true:=by rw[beq_iff_eq];omega
      have hlen:ps.length=5:=by omega
      clear h6
      have aR:=hid hlen
      clear hlen q6
      have q6:((ps.length:Int)+1==6)=true:=by have:=aR.out;rw[beq_iff_eq];omega
      have J:=K.c
      go_wp2_with fail
      clear J
      refine(ac.out).mono ?_
      rintro e ab ⟨rfl,o⟩
      have y:=hid (K.keep o)
      have G:=hid (ai.keep o)
      have H:=hid (ag.trans (Gr.quiet o))
      clear o
      have F:=y.c
      have aT:=y.f
      obtain⟨a8,af⟩:∃W,W=ab.setCell ⟨w0.heap.size,2,none⟩ (.bool true):=⟨_,rfl⟩
      have a7:=hid (show Sq w0 l a cap N0 s (atQ RY) true O a8 by rw[af];exact y.bad)
      have az:Gr (X0 w0.heap.size) O O ab a8:=by rw[af];exact Gr.box rfl 2 _
      have aM:=hid (G.go az)
      have be:=hid (H.trans az)
      clear az
      have aF:=a7.c
      rw[af]at aF
      go_wp2_with fail
      rw[<-af]
      clear F aT aF af
      refine(take_no 36 _ a7.out HC.out HL.out (by decide) (by decide) (.inl rfl)).mono ?_
      rintro e bm ⟨rfl,aJ,am⟩
      have aK:=hid aJ
      have bg:=hid (aM.go am)
      have aU:=hid (be.trans am)
      clear aJ am
      have aQ:=aK.c
      go_wp2_with fail
      clear aQ
      refine(lines_any _ aK.out HC.out HL.out a3.out).mono ?_
      rintro e ba ⟨rfl,aI,aE,aw⟩
      have an:=hid (show Sq w0 l a cap N0 s (atQ RY) true aI ba from aE)
      have aX:=hid (bg.go aw)
      have aP:=hid (aU.trans aw)
      clear aE aw
      have aV:=an.c
      go_wp2
      clear aV
      go_roundw
      case rel=>exact⟨_,atQ RY,true,aI,g9,c9,by simp,an.out,aP.out,aX.out,wkp_mono HWP.out (by have:=HAL.out;have:=HJM.out;omega),by have:=HAL.out;have:=HJM.out;omega,.inl ⟨rfl,HLL.out.1,HLL.out.2⟩⟩
      case measure=>rw[msr_of an.out,HMS.out];simp;try omega
     case neg=>
      have aA:=hid h6
      have q6:((ps.length:Int)+1==6)=false:=by rw[beq_eq_false_iff_ne];omega
      clear h6
      by_cases hbd:bdQ RY=true
      case pos=>
       have HLL:=hid (show Lend l k LP=(atQ RY,true)/\Lex l k LP=none by
        rw[HEL.out]
        have hry:=HRY.out
        clear HWY HWP HOY HAL ORY HCC HRY aa
        cases RY with
        |bad m1=>rw[els_bad hry];exact⟨rfl,rfl⟩
        |ok lv tg t m1=>cases hbd)
       have HBD:=hid hbd
       clear hbd
       have J:=K.c
       go_wp2_with fail
       clear J
       refine(ac.out).mono ?_
       rintro e ab ⟨rfl,o⟩
       have y:=hid (K.keep o)
       have G:=hid (ai.keep o)
       have H:=hid (ag.trans (Gr.quiet o))
       clear o
       have F:=y.c
       go_wp2_with fail
       clear F
       refine(take_no 36 _ y.out HC.out HL.out (by decide) (by decide) (.inl HBD.out)).mono ?_
       rintro e a2 ⟨rfl,C,A⟩
       have D:=hid C
       have P:=hid (G.go A)
       have V:=hid (H.trans A)
       clear C A
       have a0:=D.c
       go_wp2_with fail
       clear a0
       refine(lines_any _ D.out HC.out HL.out a3.out).mono ?_
       rintro e au ⟨rfl,ae,ad,Q⟩
       have U:=hid (show Sq w0 l a cap N0 s (atQ RY) true ae au from ad)
       have al:=hid (P.go Q)
       have ap:=hid (V.trans Q)
       clear ad Q
       have a1:=U.c
       go_wp2
       clear a1
       go_roundw
       case rel=>exact⟨_,atQ RY,true,ae,g9,c9,by simp,U.out,ap.out,al.out,wkp_mono HWP.out (by have:=HAL.out;have:=HJM.out;omega),by have:=HAL.out;have:=HJM.out;omega,.inl ⟨rfl,HLL.out.1,HLL.out.2⟩⟩
       case measure=>rw[msr_of U.out,HMS.out];simp;try omega
      case neg=>
       obtain⟨lv,tg,t0,m1,hry⟩:∃lv tg t m1,RY= .ok lv tg t m1:=by
        cases RY with
        |bad m1=>exact absurd rfl hbd
        |ok lv tg t m1=>exact⟨lv,tg,t,m1,rfl⟩
       clear hbd
       subst hry
       have ax:=hid (show N=t0 from aa.out.1)
       have aj:=hid (HEL.trans (els_ok2 HRY.out (by have h1:=aA.out;have h2:=HCC.out;intro h;rcases h with h|h;exact h1 h;exact h h2)))
       have aL:=hid (kd_lt (l:=l) (i:=m1) (by have:kd l m1=36:=HCC.out;omega))
       have Sz:=hid (show Sq w0 l a cap N0 s m1 false O w9 from K.out)
       have HSK:=hid (sk_le (l:=l) (i:=m1+1) aL.out)
       have ar:=hid (show m<=m1/\m1<=l.length from HAL.out)
       have bb:=hid (show wkP (2*(m-j)+2*(m1-m)) (ps++[N])from HWP.out)
       have J:=Sz.c
       go_wp2_with fail
       clear J
       refine(ac.out).mono ?_
       rintro e ab ⟨rfl,o⟩
       have y:=hid (Sz.keep o)
       have G:=hid (ai.keep o)
       have H:=hid (ag.trans (Gr.quiet o))
       clear o
       have F:=y.c
       go_wp2_with fail
       clear F
       refine(take_yes 36 _ y.out HC.out HL.out (by decide) (by decide) HCC.out).mono ?_
       rintro e a2 ⟨rfl,C,A⟩
       have D:=hid C
       have P:=hid (G.go A)
       have V:=hid (H.trans A)
       clear C A
       have a0:=D.c
       go_wp2_with fail
       clear a0
       refine(lines_any _ D.out HC.out HL.out a3.out).mono ?_
       rintro e au ⟨rfl,ae,ad,Q⟩
       have U:=hid (show Sq w0 l a cap N0 s (sk l (m1+1)) false ae au from ad)
       have al:=hid (P.go Q)
       have ap:=hid (V.trans Q)
       clear ad Q
       have a1:=U.c
       go_wp2
       clear a1
       go_roundw
       case rel=>exact⟨_,sk l (m1+1),false,ae,g9,c9,by simp,U.out,ap.out,al.out,wkp_mono bb.out (by have:=ar.out;have:=HJM.out;have:=HSK.out;omega),by have:=ar.out;have:=HJM.out;have:=HSK.out;omega,.inr ⟨rfl,by have:=aA.out;have:=HPS.out;simp;omega,by rw[ax.out,show 6-(ps++[t0]).length=gq by have:=HGQ.out;simp;omega];exact aj.out⟩⟩
       case measure=>rw[msr_of U.out,HMS.out];have:=HSK.out;have:=ar.out;have:=aL.out;simp;omega
    case neg=>
     obtain⟨q1,q2⟩:=ne_facts Z
     have a4:=hid Z
     clear Z hcc
     by_cases hA:bdQ RY=false/\c=k
     case pos=>
      obtain⟨hbd,hck⟩:=hA
      obtain⟨lv,tg,t0,m1,hry⟩:∃lv tg t m1,RY= .ok lv tg t m1:=by
       cases RY with
       |bad m1=>cases hbd
       |ok lv tg t m1=>exact⟨lv,tg,t,m1,rfl⟩
      clear hbd
      subst hry
      have ax:=hid (show N=t0 from aa.out.1)
      have HCK:=hid (show kd l m1=k from HCC.trans hck)
      have aj:=hid (HEL.trans (els_ok1 HRY.out (.inr (by have h1:=a4.out;have h2:kd l m1=c:=HCC.out;rw[h2];exact h1))))
      have Sz:=hid (show Sq w0 l a cap N0 s m1 false O w9 from K.out)
      have HLE:=hid (show Lend l k LP=(m1+1,false) by rw[aj.out];exact if_pos HCK.out)
      have HLX:=hid (show Lex l k LP=some (ps++[t0]) by rw[aj.out];exact if_pos HCK.out)
      have ah:=hid (show wkP (2*((Lend l k LP).1-j)) (ps++[N]) by rw[HLE.out];exact wkp_mono HWP.out (by have:=HAL.out;have:=HJM.out;simp only[atQ]at*;omega))
      clear hck
      have J:=Sz.c
      go_wp2_with fail
      clear J
      refine(ac.out).mono ?_
      rintro e ab ⟨rfl,o⟩
      have y:=hid (Sz.keep o)
      have G:=hid (ai.keep o)
      have H:=hid (ag.trans (Gr.quiet o))
      clear o
      have F:=y.c
      go_wp2_with fail
      clear F
      refine(take_yes k _ y.out HC.out HL.out (by have:=HKK.out;omega) (by have:=HKK.out;omega) HCK.out).mono ?_
      rintro e a2 ⟨rfl,C,A⟩
      have D:=hid C
      have P:=hid (G.go A)
      have V:=hid (H.trans A)
      clear C A
      go_wp2
      go_ret
      refine⟨some ⟨g9,0,none⟩,c9,ps++[N],O,by simp,(by rw[HLE.out];exact D.out),V.out,by have:=P.out;simpa using this,ah.out,(fun qs h=>by rw[HLX.out]at h;injection h with h;rw[<-h,ax.out])⟩
     case neg=>
      have HLL:=hid (show Lend l k LP=(atQ RY,true)/\Lex l k LP=none by
       rw[HEL.out]
       have hcc:=HCC.out
       have hry:=HRY.out
       have Z:=a4.out
       clear HWY HWP HOY HAL ORY HCC HRY aa
       cases RY with
       |bad m1=>rw[els_bad hry];exact⟨rfl,rfl⟩
       |ok lv tg t m1=>
        have hcc:kd l m1=c:=hcc
        rw[els_ok1 hry (.inr (by rw[hcc];exact Z))]
        have:¬kd l m1=k:=fun h=>hA ⟨rfl,by rw[<-hcc];exact h⟩
        exact⟨if_neg this,if_neg this⟩)
      have ah:=hid (show wkP (2*((Lend l k LP).1-j)) (ps++[N]) by rw[HLL.out.1];exact wkp_mono HWP.out (by have:=HAL.out;have:=HJM.out;show _<=2*(atQ RY-j);omega))
      have HNA:=hid (show bdQ RY=true\/¬kd l (atQ RY)=k by
       rw[HCC.out]
       cases hb:bdQ RY with
       |true=>exact .inl rfl
       |false=>exact .inr (fun h=>hA ⟨hb,h⟩))
      clear hA
      have J:=K.c
      go_wp2_with fail
      clear J
      refine(ac.out).mono ?_
      rintro e ab ⟨rfl,o⟩
      have y:=hid (K.keep o)
      have G:=hid (ai.keep o)
      have H:=hid (ag.trans (Gr.quiet o))
      clear o
      have F:=y.c
      go_wp2_with fail
      clear F
      refine(take_no k _ y.out HC.out HL.out (by have:=HKK.out;omega) (by have:=HKK.out;omega) HNA.out).mono ?_
      rintro e a2 ⟨rfl,C,A⟩
      have D:=hid C
      have P:=hid (G.go A)
      have V:=hid (H.trans A)
      clear C A
      go_wp2
      go_ret
      refine⟨some ⟨g9,0,none⟩,c9,ps++[N],O,by simp,(by rw[HLL.out.1];exact D.out),V.out,by have:=P.out;simpa using this,ah.out,(fun qs h=>by rw[HLL.out.2]at h;cases h)⟩
  case atStart=>exact bj.out
end
open ps (Ps posOk)
section
variable {w0:World} {l:List Tk} {a:Option Addr} {cap:Nat} {N0:List Tk} {s j:Nat} {v:Value} {E:Ps->Nat->R} {M:Nat}
theorem tq_one{w0:World}{a:Option Addr}{cap:Nat}{N0:List Tk}{s j:Nat}{bd:Bool}{v:Value}{w:World}{B gt:Nat}{c:Array Value}{ty:TypeId}(k op:Int)(x:ByteArray)(hs:Sq w0 l a cap N0 s j bd v w)(m:Mq w0.heap.size gt c ty v w)(hB:w0.heap.size<B)(hB2:B<=gt):
  Tq w0.heap.size B (.slice (some ⟨w.heap.size,0,none⟩) 1 1) [⟨k,op,x,⟨#[]⟩,[]⟩] v (w.alloc (.cells #[.int .i64 k,.int .i64 op,.string x,.string ⟨#[]⟩,.slice none 0 0] 33)):=by
 have hlt:=m.bk.lt
 refine⟨hB,[(⟨k,op,x,⟨#[]⟩,[]⟩,.slice none 0 0)],fun _=>gt,⟨?_,fun i hi=> ?_,fun i hi=> ?_,fun i i' h1 h2=> ?_,fun i hi=> ?_⟩,rfl,fun i hi=>hB2,fun g hg=>⟨fun e=> ?_,fun i hi e=> ?_⟩⟩
 ·have:=World.ownsRow_lit (base:=B) (size:=5) (e:=33) w #[.int .i64 k,.int .i64 op,.string x,.string ⟨#[]⟩,.slice none 0 0] 1 (by omega) (by unfold maxLen;omega) rfl
  exact this
 ·simp at hi
  subst hi
  exact .inl ⟨rfl,rfl⟩
 ·intro e
  simp[Value.ownBlock]at e
  omega
 ·simp at h2
  omega
 ·simp
  omega
 ·have h1:=(World.ownsRow.lt hs.own g hg).2
  simp[Value.ownBlock]at e
  omega
 ·exact m.o (by rw[hg];exact congrArg some e)
theorem leaf_make(k op:Int)(x:ByteArray):makeT (nd0 k op x) []=[⟨k,op,x,⟨#[]⟩,[]⟩]:=rfl
set_option maxHeartbeats 6400000 in
theorem leaf_any(k:Int)(w:World)(hst:Sq w0 l a cap N0 s j false v w)(hc:tk.Lies w0.heap.size w0 a l)(hl:l.length<=6000)(hk:kd l j=3\/kd l j=4\/kd l j=5):
  Calls Tryz.prog 181 #[.pointer (some ⟨w0.heap.size,0,none⟩),.int .i64 k] w (Rq w0 l a cap N0 s j v w (word l k j)):=by
 have HC:=hid hc
 have HL:=hid (show l.length<=100000 by omega)
 have ac:=hid hl
 obtain⟨W,hW⟩:∃W,W=w.alloc (.cells #[.slice none 0 0,.bool false] 95):=⟨_,rfl⟩
 have hB:Below w.heap.size w W:=by rw[hW];exact(Below.refl _ _).alloc (Nat.le_refl _) _
 have R0:=hid (show Mq w0.heap.size w.heap.size #[.slice none 0 0,.bool false] 95 v W from Mq.of hst (by rw[hW];exact Bk.new _ _ _) (Nat.le_refl _))
 have S0:=hid (hst.keep hB)
 have G0:=hid (show Gr (X0 w0.heap.size) v v w W from Gr.quiet hB)
 have HLT:=hid hst.lt
 have HBS:=hid hB.size
 have HJN:=hid hst.jn
 have HWS:=hid (show W.heap.size=w.heap.size+1 by rw[hW];simp)
 clear hB hst
 obtain⟨c,hcc⟩:∃c,kd l j=c:=⟨_,rfl⟩
 rw[hcc]at hk
 have HV:=hid hk
 have HCC:=hid hcc
 have HJ:=hid (kd_lt (l:=l) (i:=j) (by omega))
 have HTK:=hid (fun W2 (h2:Sq w0 l a cap N0 s j false v W2)=>h2.tok hc HJ.out)
 rw[hcc]at HTK
 obtain⟨x,hx⟩:∃x,tx l j=x:=⟨_,rfl⟩
 obtain⟨y,hy⟩:∃y,pr.ta l j=y:=⟨_,rfl⟩
 rw[hx,hy]at HTK
 have HWD:=hid (show word l k j=fin k 0 x [] (j+1) by unfold word;rw[hx])
 have HX:=hid hx
 have HY:=hid hy
 obtain⟨b,o,rfl,d0,d1,d2⟩:=HTK.out W S0.out
 obtain⟨n,hn⟩:∃n,l.length=n:=⟨_,rfl⟩
 have HN:=hid hn
 have h1:(j:Int)<(n:Int):=by have:=HJ.out;omega
 have hjb:j<=100000:=by have:=HJ.out;have:=HL.out;omega
 have HTY:=hid (fun W2 (h2:Sq w0 l (some ⟨b,o,none⟩) cap N0 s j false v W2)=>take_yes c W2 h2 HC.out HL.out (by have:=HV.out;omega) (by have:=HV.out;omega) HCC.out)
 rw[hx,hy]at HTY
 clear hc hl hk hcc hx hy
 obtain⟨c1,c2,c3,c4⟩:=S0.c
 have m5:=R0.bk.c2
 have f7:=R0.bk.f
 rw[hW]at c1 c2 c3 c4 m5 f7
 rw[hn]at c1
 clear hn
 rw[hW]at d0 d1 d2
 have T0:=hid (Mq.new S0.out #[.int .i64 0,.string ⟨#[]⟩,.int .i64 0] 86)
 go_enter Tryz.func181,Tryz.ntmps181
 go_wp2
 rw[<-hW]
 rw[<-hW]at d0 d1 d2 c1 c2 c3 c4 m5 f7
 clear hW
 have C0:∀z,(W.alloc z).cell? ⟨w0.heap.size,0,none⟩=_:=fun z=>nd.cell_past z c1
 have C1:∀z,(W.alloc z).cell? ⟨w0.heap.size,1,none⟩=_:=fun z=>nd.cell_past z c2
 have D0:∀z,(W.alloc z).cell? _=_:=fun z=>nd.cell_past z d0
 go_region_law (first|(go_simp;go_at_call 107;refine(HTY.out _ (by first|exact S0.out|exact S0.drew|exact(S0.alloc _)|exact(S0.alloc _).drew|exact S0.drew.alloc _)).mono ?_;rintro e w1 ⟨rfl,s1,g1⟩;first|(have tb:Mq w0.heap.size W.heap.size #[.int .i64 0,.string ⟨#[]⟩,.int .i64 0] 86 v w1:=Mq.go (by first|exact T0.out|exact⟨T0.bk,T0.b,T0.o⟩) g1;obtain⟨z0,z1,z2⟩:=tb.bk.c3;have z3:=tb.bk.f 0;have z4:=tb.bk.f 1;have z5:=tb.bk.f 2)|skip))
 all_goals have GW:Gr (X0 w0.heap.size) v v W w1:=by first|exact⟨g1.size,g1.keep,g1.own⟩|exact Gr.trans (Gr.quiet ((Below.refl _ W).alloc (Nat.le_refl _) _)) ⟨g1.size,g1.keep,g1.own⟩
 all_goals have HRW:=hid (show w.heap.size<W.heap.size from R0.bk.lt)
 all_goals have R1:=hid (R0.go GW)
 all_goals first
  |(skip
    obtain⟨W3,C⟩:∃W3,W3=w1.alloc (.cells #[.int .i64 c,.string x,.int .i64 y] 86):=⟨_,rfl⟩
    rw[<-C]
    have b3:Below w1.heap.size w1 W3:=by rw[C];exact(Below.refl _ _).alloc (Nat.le_refl _) _
    have S3:=hid (s1.keep b3)
    have R3:=hid (R1.keep b3)
    have G3:=hid ((G0.trans GW).trans (Gr.quiet b3))
    have K3:=hid (show Mq w0.heap.size w1.heap.size #[.int .i64 c,.string x,.int .i64 y] 86 v W3 from Mq.of s1 (by rw[C];exact Bk.new _ _ _) (Nat.le_refl _))
    have HGK:=hid (show w.heap.size+1<=w1.heap.size from Nat.le_trans HRW.out GW.size)
    clear b3
    clear C s1 g1 GW
    have c9:=S3.c
    have V:=R3.bk.c2
    have Z:=R3.bk.f
    have ab:=K3.bk.c3
    clear C0 C1 D0 d0 d1 d2
    have TL:=hid (tq_one k 0 x S3.out K3.out (show w0.heap.size<w.heap.size+1 by have:=HLT.out;omega) HGK.out)
    obtain⟨P,D⟩:∃W,W=W3.alloc (.cells #[.int .i64 k,.int .i64 0,.string x,.string ⟨#[]⟩,.slice none 0 0] 33):=⟨_,rfl⟩
    rw[<-D]at TL
    have A:Below W3.heap.size W3 P:=by rw[D];exact(Below.refl _ _).alloc (Nat.le_refl _) _
    have H:=hid (S3.keep A)
    have F:=hid (R3.keep A)
    have U:=hid (K3.keep A)
    have Q:=hid (G3.trans (Gr.quiet A))
    clear A
    have N:=H.c
    have G:=F.bk.c2
    have J:=F.bk.f
    have K:=U.bk.c3
    rw[D]at N G J K
    go_wp2
    rw[<-D]
    clear c9 V Z ab N G J K D
    obtain⟨aa,O⟩:=(F.bk.put2 (.slice (some ⟨W3.heap.size,0,none⟩) 1 1) (.bool false)).c2
    exact bodyPost_ret (v:= .agg #[.slice (some ⟨W3.heap.size,0,none⟩) 1 1,.bool false]) (by simp[results,Tryz.results181,go_sem,aa,O]) rfl (by rw[HWD.out];exact rq_end HLT.out H.out Q.out F.out TL.out (by exact Nat.le_refl _) (by exact Nat.lt_succ_self _) (⟨leaf_make _ _ _,rfl⟩)))
  |(skip
    obtain⟨W3,C⟩:∃W3,W3=((w1.setCell ⟨W.heap.size,0,none⟩ (.int .i64 c)).setCell ⟨W.heap.size,1,none⟩ (.string x)).setCell ⟨W.heap.size,2,none⟩ (.int .i64 y):=⟨_,rfl⟩
    rw[<-C]
    have S3:=hid (by rw[C];exact((s1.mset tb 0 _).mset (tb.set 0 _) 1 _).mset ((tb.set 0 _).set 1 _) 2 _:Sq w0 l (some ⟨b,o,none⟩) cap N0 s (j+1) false v W3)
    have K3:=hid (by rw[C];exact((tb.set 0 (.int .i64 c)).set 1 (.string x)).set 2 (.int .i64 y):Mq w0.heap.size W.heap.size #[.int .i64 c,.string x,.int .i64 y] 86 v W3)
    have hne:w.heap.size≠W.heap.size:=by have:=HRW.out;omega
    have R3:=hid (by rw[C];exact((R1.oth hne 0 _).oth hne 1 _).oth hne 2 _:Mq w0.heap.size w.heap.size #[.slice none 0 0,.bool false] 95 v W3)
    have G3:=hid (by rw[C];exact(((G0.trans GW).set (.inr (Nat.le_of_lt HRW.out)) 0 _).set (.inr (Nat.le_of_lt HRW.out)) 1 _).set (.inr (Nat.le_of_lt HRW.out)) 2 _:Gr (X0 w0.heap.size) v v w W3)
    have HGK:=hid (show w.heap.size+1<=W.heap.size from HRW.out)
    clear hne tb z0 z1 z2 z3 z4 z5
    clear C s1 g1 GW
    have c9:=S3.c
    have V:=R3.bk.c2
    have Z:=R3.bk.f
    have ab:=K3.bk.c3
    clear C0 C1 D0 d0 d1 d2
    have TL:=hid (tq_one k 0 x S3.out K3.out (show w0.heap.size<w.heap.size+1 by have:=HLT.out;omega) HGK.out)
    obtain⟨P,D⟩:∃W,W=W3.alloc (.cells #[.int .i64 k,.int .i64 0,.string x,.string ⟨#[]⟩,.slice none 0 0] 33):=⟨_,rfl⟩
    rw[<-D]at TL
    have A:Below W3.heap.size W3 P:=by rw[D];exact(Below.refl _ _).alloc (Nat.le_refl _) _
    have H:=hid (S3.keep A)
    have F:=hid (R3.keep A)
    have U:=hid (K3.keep A)
    have Q:=hid (G3.trans (Gr.quiet A))
    clear A
    have N:=H.c
    have G:=F.bk.c2
    have J:=F.bk.f
    have K:=U.bk.c3
    rw[D]at N G J K
    go_wp2
    rw[<-D]
    clear c9 V Z ab N G J K D
    obtain⟨aa,O⟩:=(F.bk.put2 (.slice (some ⟨W3.heap.size,0,none⟩) 1 1) (.bool false)).c2
    exact bodyPost_ret (v:= .agg #[.slice (some ⟨W3.heap.size,0,none⟩) 1 1,.bool false]) (by simp[results,Tryz.results181,go_sem,aa,O]) rfl (by rw[HWD.out];exact rq_end HLT.out H.out Q.out F.out TL.out (by exact Nat.le_refl _) (by exact Nat.lt_succ_self _) (⟨leaf_make _ _ _,rfl⟩)))
end
section
variable {w0:World} {l:List Tk} {a:Option Addr} {cap:Nat} {N0:List Tk} {s j:Nat} {v:Value} {E:Ps->Nat->R} {M:Nat}
set_option maxHeartbeats 6400000 in
theorem list_bad(k:Int)(w:World)(hst:Sq w0 l a cap N0 s j true v w)(hc:tk.Lies w0.heap.size w0 a l)(hl:l.length<=6000)(hk:k=33\/k=35):
  Calls Tryz.prog 176 #[.pointer (some ⟨w0.heap.size,0,none⟩),.int .i64 k,.int .i64 0] w (Lr w0 l a cap N0 s j v w (j,true) none):=by
 have HC:=hid hc
 have HL:=hid (show l.length<=100000 by omega)
 have Q:=hid hl
 have HKK:=hid hk
 have HLT:=hid hst.lt
 obtain⟨W,hW⟩:∃W,W=w.alloc (.cells #[] 26):=⟨_,rfl⟩
 have hB:Below w.heap.size w W:=by rw[hW];exact(Below.refl _ _).alloc (Nat.le_refl _) _
 have S0:=hid (hst.keep hB)
 have G0:=hid (show Gr (X0 w0.heap.size) v v w W from Gr.quiet hB)
 have L0:=hid (show Lst w0.heap.size w.heap.size (.slice (some ⟨w.heap.size,0,none⟩) 0 0) [] v W by rw[hW];exact Lst.new hst)
 have C:=hid (kind_any W S0.out hc (by omega))
 obtain⟨c,hcc⟩:∃c,kd l j=c:=⟨_,rfl⟩
 rw[hcc]at C
 clear hst hc hl hB hcc hk
 by_cases hck:c=k
 case pos=>
  subst hck
  have c1:=S0.c
  rw[hW]at c1
  go_enter Tryz.func176,Tryz.ntmps176
  go_wp2_with fail
  rw[<-hW]
  clear c1 hW
  refine(C.out).mono ?_
  rintro e w5 ⟨rfl,b6⟩
  have S7:=hid (S0.keep b6)
  have L8:=hid (L0.keep b6)
  have G9:=hid (G0.trans (Gr.quiet b6))
  clear b6
  have o:=S7.c
  go_wp2_with fail
  clear o
  refine(take_no c _ S7.out HC.out HL.out (by have:=HKK.out;omega) (by have:=HKK.out;omega) (.inl rfl)).mono ?_
  rintro e V ⟨rfl,D,A⟩
  have K:=hid D
  have O:=hid (L8.go A)
  have N:=hid (G9.trans A)
  clear D A
  go_wp2
  go_ret
  exact⟨_,_,[],v,rfl,K.out,N.out,O.out,⟨by simp,fun q hq=>by simp at hq,by simp[nd.sumL]⟩,fun qs h=>by cases h⟩
 case neg=>
  obtain⟨q1,q2⟩:=ne_facts hck
  clear hck
  have c1:=S0.c
  rw[hW]at c1
  go_enter Tryz.func176,Tryz.ntmps176
  go_wp2_with fail
  rw[<-hW]
  clear c1 hW
  refine(C.out).mono ?_
  rintro e w5 ⟨rfl,b6⟩
  have S7:=hid (S0.keep b6)
  have L8:=hid (L0.keep b6)
  have G9:=hid (G0.trans (Gr.quiet b6))
  clear b6
  have o:=S7.c
  go_wp2
  clear o
  have HRL:=hid (show(w5:World)=w5 from rfl)
  go_loopw [7] (fun u wr=>u= .slice (some ⟨w.heap.size,0,none⟩) 0 0/\wr=w5) (fun _ wr=>0)
  case atStart=>exact⟨rfl,rfl⟩
  case round=>
   obtain⟨rfl,rfl⟩:=hrel
   skip
   have P:=S7.c
   go_wp2_with fail
   clear P
   refine(take_no k _ S7.out HC.out HL.out (by have:=HKK.out;omega) (by have:=HKK.out;omega) (.inl rfl)).mono ?_
   rintro e U ⟨rfl,F,y⟩
   have H:=hid F
   have G:=hid (L8.go y)
   have J:=hid (G9.trans y)
   clear F y
   go_wp2
   go_ret
   exact⟨_,_,[],v,rfl,H.out,J.out,G.out,⟨by simp,fun q hq=>by simp at hq,by simp[nd.sumL]⟩,fun qs h=>by cases h⟩
set_option maxHeartbeats 6400000 in
theorem list_empty(k:Int)(w:World)(hst:Sq w0 l a cap N0 s j false v w)(hc:tk.Lies w0.heap.size w0 a l)(hl:l.length<=6000)(hk:k=33\/k=35)(h:kd l j=k):
  Calls Tryz.prog 176 #[.pointer (some ⟨w0.heap.size,0,none⟩),.int .i64 k,.int .i64 0] w (Lr w0 l a cap N0 s j v w (j+1,false) (some [])):=by
 have HC:=hid hc
 have HL:=hid (show l.length<=100000 by omega)
 have H:=hid hl
 have HKK:=hid hk
 have HLT:=hid hst.lt
 have HH:=hid h
 obtain⟨W,hW⟩:∃W,W=w.alloc (.cells #[] 26):=⟨_,rfl⟩
 have hB:Below w.heap.size w W:=by rw[hW];exact(Below.refl _ _).alloc (Nat.le_refl _) _
 have S0:=hid (hst.keep hB)
 have G0:=hid (show Gr (X0 w0.heap.size) v v w W from Gr.quiet hB)
 have L0:=hid (show Lst w0.heap.size w.heap.size (.slice (some ⟨w.heap.size,0,none⟩) 0 0) [] v W by rw[hW];exact Lst.new hst)
 have A:=hid (kind_any W S0.out hc (by omega))
 rw[h]at A
 clear hst hc hl hB hk h
 have c1:=S0.c
 rw[hW]at c1
 go_enter Tryz.func176,Tryz.ntmps176
 go_wp2_with fail
 rw[<-hW]
 clear c1 hW
 refine(A.out).mono ?_
 rintro e w5 ⟨rfl,b6⟩
 have S7:=hid (S0.keep b6)
 have L8:=hid (L0.keep b6)
 have G9:=hid (G0.trans (Gr.quiet b6))
 clear b6
 have C:=S7.c
 go_wp2_with fail
 clear C
 refine(take_yes k _ S7.out HC.out HL.out (by have:=HKK.out;omega) (by have:=HKK.out;omega) HH.out).mono ?_
 rintro e J ⟨rfl,y,o⟩
 have D:=hid y
 have G:=hid (L8.go o)
 have F:=hid (G9.trans o)
 clear y o
 go_wp2
 go_ret
 exact⟨_,_,[],v,rfl,D.out,F.out,G.out,⟨by simp,fun q hq=>by simp at hq,by simp[nd.sumL]⟩,fun qs h=>by injection h⟩
end
section
variable {w0:World} {l:List Tk} {a:Option Addr} {cap:Nat} {N0:List Tk} {s j:Nat} {v:Value} {E:Ps->Nat->R} {M:Nat}
def lstR(l:List Tk)(k:Int)(x:ByteArray)(endk:Int):P->R
 | .bad m=> .bad m
 | .ok ps m=>if kd l m=endk then fin k 0 x ps (m+1)else .bad m
theorem at_lst(k:Int)(x:ByteArray)(endk:Int)(p:P):atQ (lstR l k x endk p)=(Lend l endk p).1/\bdQ (lstR l k x endk p)=(Lend l endk p).2:=by
 cases p with
 |bad m=>exact⟨rfl,rfl⟩
 |ok ps m=>
  unfold lstR Lend
  by_cases h:kd l m=endk
  ·simp only[if_pos h];exact⟨rfl,rfl⟩
  ·simp only[if_neg h];exact⟨rfl,rfl⟩
theorem gt_lst{k:Int}{x:ByteArray}{endk:Int}{p:P}{ps:List (List Nd)}{j0:Nat}(h:∀qs,Lex l endk p=some qs->ps=qs)(hw:wkP (2*((Lend l endk p).1-j0)) ps)(hj:j<j0)(hle:j0<=(Lend l endk p).1):GtR j (makeT (nd0 k 0 x) ps) false (lstR l k x endk p):=by
 have hbad:Wk (2*((Lend l endk p).1-j)) (makeT (nd0 k 0 x) ps):=wk_make hw.2.1 hw.1 (by have:=hw.2.2;omega)
 cases p with
 |bad m=>exact hbad
 |ok qs m=>
  show GtR j (makeT (nd0 k 0 x) ps) false (if kd l m=endk then fin k 0 x qs (m+1)else .bad m)
  by_cases hk:kd l m=endk
  ·rw[if_pos hk]
   have:=h qs (if_pos hk)
   subst this
   exact⟨rfl,(put_make _ _ _ _).symm⟩
  ·rw[if_neg hk]
   have e:(Lend l endk (.ok qs m)).1=m:=by show(if kd l m=endk then(m+1,false)else(m,true)).1=m;rw[if_neg hk]
   rw[e]at hbad
   exact hbad
theorem lend_le{endk:Int}{j0:Nat}(oE:∀p i,i<=l.length->Ok M l i (E p i))(hj:j0<=l.length):j0<=(Lend l endk (els E l 6 6 [] j0)).1:=by
 have:=els_ok (M:=M) oE 6 6 [] j0 hj (fun q hq=>by simp at hq)
 cases hr:els E l 6 6 [] j0 with
 |bad m=>rw[hr]at this;exact this.1
 |ok ps m=>
  rw[hr]at this
  have h1:=this.1
  show j0<=(if kd l m=endk then(m+1,false)else(m,true)).1
  by_cases hk:kd l m=endk
  ·rw[if_pos hk];show j0<=m+1;omega
  ·rw[if_neg hk];exact Nat.le_of_lt h1
theorem listed_lst{k a b:Int}(h:kd l (j+1)=a)(h2:¬(b=33/\kd l (j+2)=33)):listed E l k a b j=lstR l k (tx l j) b (els E l 6 6 [] (j+2)):=by
 unfold listed lstR
 rw[if_pos h,if_neg h2]
 cases els E l 6 6 [] (j+2)<;>rfl
theorem listed_nil{k:Int}(h:kd l (j+1)=32)(h2:kd l (j+2)=33):listed E l k 32 33 j=fin k 0 (tx l j) [] (j+3):=by
 unfold listed
 rw[if_pos h,if_pos ⟨rfl,h2⟩]
theorem listed_no{k b:Int}{a:Int}(h:¬kd l (j+1)=a):listed E l k a b j= .bad (j+1):=by
 unfold listed
 rw[if_neg h]
def nameR(E:Ps->Nat->R)(l:List Tk)(j:Nat):R:=if kd l (j+1)=34 then listed E l 5 34 35 j else word l 1 j
set_option maxHeartbeats 6400000 in
theorem name_any(w:World)(hst:Sq w0 l a cap N0 s j false v w)(hc:tk.Lies w0.heap.size w0 a l)(hl:l.length<=6000)(hE:CallS w0 l a cap N0 s E (j+1))(oE:∀p i,i<=l.length->Ok M l i (E p i))(hN0:N0.length+l.length<=200000)(hk:kd l j=6):
  Calls Tryz.prog 182 #[.pointer (some ⟨w0.heap.size,0,none⟩)] w (Rq w0 l a cap N0 s j v w (nameR E l j)):=by
 have HC:=hid hc
 have HL:=hid (show l.length<=100000 by omega)
 have a1:=hid hl
 obtain⟨W,hW⟩:∃W,W=w.alloc (.cells #[.slice none 0 0,.bool false] 95):=⟨_,rfl⟩
 have hB:Below w.heap.size w W:=by rw[hW];exact(Below.refl _ _).alloc (Nat.le_refl _) _
 have R0:=hid (show Mq w0.heap.size w.heap.size #[.slice none 0 0,.bool false] 95 v W from Mq.of hst (by rw[hW];exact Bk.new _ _ _) (Nat.le_refl _))
 have S0:=hid (hst.keep hB)
 have G0:=hid (show Gr (X0 w0.heap.size) v v w W from Gr.quiet hB)
 have HLT:=hid hst.lt
 have HBS:=hid hB.size
 have HJN:=hid hst.jn
 have HWS:=hid (show W.heap.size=w.heap.size+1 by rw[hW];simp)
 clear hB hst
 have HJ:=hid (kd_lt (l:=l) (i:=j) (by omega))
 obtain⟨x,hx⟩:∃x,tx l j=x:=⟨_,rfl⟩
 obtain⟨y,hy⟩:∃y,pr.ta l j=y:=⟨_,rfl⟩
 have HTY:=hid (take_yes 6 W S0.out hc (by omega) (by decide) (by decide) hk)
 rw[hx,hy]at HTY
 have HX:=hid hx
 have ac:=hid (fun v2 W2 (h2:Sq w0 l a cap N0 s (j+1) false v2 W2)=>kind_any W2 h2 HC.out HL.out)
 have HLS:=hid (fun(h34:kd l (j+1)=34) v2 W2 (h2:Sq w0 l a cap N0 s (j+2) false v2 W2)=>list_run 35 1 W2 h2 hc hl (hE.up (by omega)) oE hN0 (.inr rfl) (.inl rfl))
 have HLE:=hid (fun(h34:kd l (j+1)=34)=>lend_le (endk:=35) oE (kd_lt (l:=l) (i:=j+1) (by omega)))
 clear hc hl hE oE hN0 hk hx hy
 obtain⟨c1,c2,c3,c4⟩:=S0.c
 have m5:=R0.bk.c2
 rw[hW]at c1 c2 c3 c4 m5
 go_enter Tryz.func182,Tryz.ntmps182
 go_wp2_with fail
 rw[<-hW]
 clear c1 c2 c3 c4 m5 hW
 refine HTY.mono ?_
 rintro e w7 ⟨rfl,s9,g9⟩
 have St:=hid s9
 have R8:=hid (R0.go g9)
 have G9:=hid (G0.trans g9)
 clear s9 g9
 have a9:=hid (show w.heap.size<w7.heap.size from R8.bk.lt)
 obtain⟨aj,A⟩:∃W,W=w7.alloc (.cells #[.int .i64 6,.string x,.int .i64 y] 86):=⟨_,rfl⟩
 have Z:Below w7.heap.size w7 aj:=by rw[A];exact(Below.refl _ _).alloc (Nat.le_refl _) _
 have aa:=hid (show Mq w0.heap.size w7.heap.size #[.int .i64 6,.string x,.int .i64 y] 86 v aj from Mq.of St.out (by rw[A];exact Bk.new _ _ _) (Nat.le_refl _))
 have aA:=hid (show aj.heap.size=w7.heap.size+1 by rw[A];simp)
 have G:=hid (St.keep Z)
 have F:=hid (R8.keep Z)
 have ay:=hid (G9.trans (Gr.quiet Z))
 clear Z
 have HGK:=hid (show w.heap.size+1<=w7.heap.size from a9.out)
 by_cases h34:kd l (j+1)=34
 case neg=>
  have HPR:=hid (show nameR E l j=fin 1 0 x [] (j+1) by unfold nameR;rw[if_neg h34];unfold word;rw[HX.out])
  obtain⟨c,hcc⟩:∃c,kd l (j+1)=c:=⟨_,rfl⟩
  rw[hcc]at ac h34
  obtain⟨q1,q2⟩:=ne_facts h34
  clear h34 hcc
  have P:=G.c
  have N:=F.bk.c2
  have O:=F.bk.f
  have Q:=aa.bk.c3
  rw[A]at P N O Q
  go_wp2_with fail
  rw[<-A]
  clear P N O Q A
  refine(ac.out _ _ G.out).mono ?_
  rintro e H ⟨rfl,o⟩
  have J:=hid (G.keep o)
  have D:=hid (F.keep o)
  have K:=hid (aa.keep o)
  have al:=hid (ay.trans (Gr.quiet o))
  clear o
  have ah:=J.c
  have af:=D.bk.c2
  have aq:=D.bk.f
  have ag:=K.bk.c3
  have TL:=hid (tq_one 1 0 x J.out K.out (show w0.heap.size<w.heap.size+1 by have:=HLT.out;omega) HGK.out)
  obtain⟨a7,U⟩:∃W,W=H.alloc (.cells #[.int .i64 1,.int .i64 0,.string x,.string ⟨#[]⟩,.slice none 0 0] 33):=⟨_,rfl⟩
  rw[<-U]at TL
  have V:Below H.heap.size H a7:=by rw[U];exact(Below.refl _ _).alloc (Nat.le_refl _) _
  have au:=hid (J.keep V)
  have C:=hid (D.keep V)
  have ae:=hid (K.keep V)
  have ai:=hid (al.trans (Gr.quiet V))
  clear V
  have ak:=au.c
  have am:=C.bk.c2
  have ar:=C.bk.f
  have ao:=ae.bk.c3
  rw[U]at ak am ar ao
  go_wp2
  rw[<-U]
  clear ah af aq ag ak am ar ao U
  obtain⟨a6,a4⟩:=(C.bk.put2 (.slice (some ⟨H.heap.size,0,none⟩) 1 1) (.bool false)).c2
  exact bodyPost_ret (v:= .agg #[.slice (some ⟨H.heap.size,0,none⟩) 1 1,.bool false]) (by simp[results,Tryz.results182,go_sem,a6,a4]) rfl (by rw[HPR.out];exact rq_end HLT.out au.out ai.out C.out TL.out (by exact Nat.le_refl _) (by exact Nat.lt_succ_self _) (⟨leaf_make _ _ _,rfl⟩))
 case pos=>
  have HPR:=hid (show nameR E l j=lstR l 5 x 35 (els E l 6 6 [] (j+2)) by unfold nameR;rw[if_pos h34,<-HX.out];exact listed_lst h34 (by omega))
  have ap:=hid h34
  rw[h34]at ac
  clear h34
  have P:=G.c
  have N:=F.bk.c2
  have O:=F.bk.f
  have Q:=aa.bk.c3
  rw[A]at P N O Q
  go_wp2_with fail
  rw[<-A]
  clear P N O Q A
  refine(ac.out _ _ G.out).mono ?_
  rintro e H ⟨rfl,o⟩
  have J:=hid (G.keep o)
  have D:=hid (F.keep o)
  have K:=hid (aa.keep o)
  have al:=hid (ay.trans (Gr.quiet o))
  clear o
  have ah:=J.c
  have af:=D.bk.c2
  have aq:=D.bk.f
  have ag:=K.bk.c3
  go_wp2_with fail
  clear ah af aq ag
  refine(take_yes 34 _ J.out HC.out HL.out (by decide) (by decide) ap.out).mono ?_
  rintro e a8 ⟨rfl,ax,ab⟩
  have an:=hid ax
  have C:=hid (D.go ab)
  have ae:=hid (K.go ab)
  have ai:=hid (al.trans ab)
  clear ax ab
  have ak:=an.c
  have am:=C.bk.c2
  have ar:=C.bk.f
  have ao:=ae.bk.c3
  go_wp2
  go_region_law (first|(go_simp;go_at_call 176;refine(HLS.out ap.out _ _ (by first|exact an.out|exact an.drew)).mono ?_;rintro e w5 ⟨a5,c5,a2,v5,rfl,s5,g5,l5,k5,x5⟩;have G5:Gr (X0 w0.heap.size) v v5 a8 w5:=⟨g5.size,g5.keep,g5.own⟩;have K5:=Mq.go ae.out G5;have R5:=Mq.go C.out G5;obtain⟨y0,y1,y2⟩:=K5.bk.c3;have ad:=hid k5;have az:=hid x5;clear k5 x5)|(go_simp;go_at_call 172;refine(nd.make_all (nd0 5 0 x) a2 a5 c5 _ l5.parts (Nat.le_trans ad.out.2.2 (by have:=s5.jn;have:=a1.out;omega)) (Nat.le_trans ad.out.1 (by decide)) (fun q hq t ht=>Nat.le_trans (ad.out.2.1 q hq t ht) (by decide))).mono ?_;rintro e w6 ⟨T6,z6,r6,rfl,a0,aw,b6,a3⟩;obtain⟨aT,cT,eT⟩:=aw.form;subst eT;have R6:=R5.keep b6;obtain⟨y3,y4⟩:=R6.bk.c2;have y5:=R6.bk.f 0;have y6:=R6.bk.f 1))
  all_goals
   have S6:=s5.keep b6
   have H6:=Tq.of s5 aw a3
   rw[a0]at H6
   have HLX:=R5.bk.lt
   have G6:=(ai.trans G5).trans (Gr.quiet b6)
   go_wp2
   obtain⟨u0,u1⟩:=(R6.bk.put2 (.slice aT z6.length cT) (.bool false)).c2
   exact bodyPost_ret (v:= .agg #[.slice aT z6.length cT,.bool false]) (by simp[results,Tryz.results182,go_sem,u0,u1]) rfl (by rw[HPR.out];exact rq_end HLT.out (by rw[(at_lst _ _ _ _).1,(at_lst _ _ _ _).2];exact S6) G6 R6 H6 (by exact Nat.le_refl _) HLX (gt_lst az.out ad.out (by omega) (HLE.out ap.out)))
end
section
variable {w0:World} {l:List Tk} {a:Option Addr} {cap:Nat} {N0:List Tk} {s j:Nat} {v:Value} {E:Ps->Nat->R} {M:Nat}
def callR(E:Ps->Nat->R)(l:List Tk)(k:Int)(j:Nat):R:=if k=8/\isLen (tx l j)=true/\¬kd l (j+1)=32 then word l 8 j else listed E l k 32 33 j
set_option maxHeartbeats 12800000 in
theorem call_any(k:Int)(w:World)(hst:Sq w0 l a cap N0 s j false v w)(hc:tk.Lies w0.heap.size w0 a l)(hl:l.length<=6000)(hE:CallS w0 l a cap N0 s E (j+1))(oE:∀p i,i<=l.length->Ok M l i (E p i))(hN0:N0.length+l.length<=200000)(hk:kd l j=k)(hk78:k=7\/k=8):
  Calls Tryz.prog 183 #[.pointer (some ⟨w0.heap.size,0,none⟩),.int .i64 k] w (Rq w0 l a cap N0 s j v w (callR E l k j)):=by
 have HC:=hid hc
 have HL:=hid (show l.length<=100000 by omega)
 have aj:=hid hl
 obtain⟨W,hW⟩:∃W,W=w.alloc (.cells #[.slice none 0 0,.bool false] 95):=⟨_,rfl⟩
 have hB:Below w.heap.size w W:=by rw[hW];exact(Below.refl _ _).alloc (Nat.le_refl _) _
 have R0:=hid (show Mq w0.heap.size w.heap.size #[.slice none 0 0,.bool false] 95 v W from Mq.of hst (by rw[hW];exact Bk.new _ _ _) (Nat.le_refl _))
 have S0:=hid (hst.keep hB)
 have G0:=hid (show Gr (X0 w0.heap.size) v v w W from Gr.quiet hB)
 have HLT:=hid hst.lt
 have HBS:=hid hB.size
 have HJN:=hid hst.jn
 have HWS:=hid (show W.heap.size=w.heap.size+1 by rw[hW];simp)
 clear hB hst
 have HJ:=hid (kd_lt (l:=l) (i:=j) (by omega))
 obtain⟨x,hx⟩:∃x,tx l j=x:=⟨_,rfl⟩
 obtain⟨y,hy⟩:∃y,pr.ta l j=y:=⟨_,rfl⟩
 have HKD:=hid (kind_any W S0.out hc (by omega))
 rw[hk]at HKD
 have HTY:=hid (fun W2 (h2:Sq w0 l a cap N0 s j false v W2)=>take_yes k W2 h2 HC.out HL.out (by omega) (by omega) hk)
 rw[hx,hy]at HTY
 have HX:=hid hx
 have a1:=hid (fun v2 W2 (h2:Sq w0 l a cap N0 s (j+1) false v2 W2)=>kind_any W2 h2 HC.out HL.out)
 have HV:=hid hk78
 obtain⟨ln,hln⟩:∃ln,isLen x=ln:=⟨_,rfl⟩
 have hlen:(x.toList==[108,101,110,103,116,104])=ln:=hln
 have HLN:=hid hln
 have HLEN:=hid hlen
 have HLS:=hid (fun(h32:kd l (j+1)=32) (h33:¬kd l (j+2)=33) v2 W2 (h2:Sq w0 l a cap N0 s (j+2) false v2 W2)=>list_run 33 0 W2 h2 hc hl (hE.up (by omega)) oE hN0 (.inl rfl) (.inr ⟨rfl,h33⟩))
 have HLE:=hid (fun(h32:kd l (j+1)=32)=>lend_le (endk:=33) oE (kd_lt (l:=l) (i:=j+1) (by omega)))
 clear hc hl hE oE hN0 hk hx hy hln hlen hk78
 obtain⟨c1,c2,c3,c4⟩:=S0.c
 have m5:=R0.bk.c2
 rw[hW]at c1 c2 c3 c4 m5
 go_enter Tryz.func183,Tryz.ntmps183
 go_wp2_with fail
 rw[<-hW]
 clear c1 c2 c3 c4 m5 hW
 refine(HKD.out).mono ?_
 rintro e w7 ⟨rfl,b8⟩
 have S9:=hid (S0.keep b8)
 have aF:=hid (R0.keep b8)
 have aU:=hid (G0.trans (Gr.quiet b8))
 clear b8
 have aM:=S9.c
 have aN:=aF.bk.c2
 go_wp2_with fail
 clear aM aN
 refine(HTY.out _ S9.out).mono ?_
 rintro e az ⟨rfl,s9,g9⟩
 have St:=hid s9
 have aK:=hid (aF.go g9)
 have aQ:=hid (aU.trans g9)
 clear s9 g9
 have aO:=hid (show w.heap.size<az.heap.size from aK.bk.lt)
 obtain⟨aC,A⟩:∃W,W=az.alloc (.cells #[.int .i64 k,.string x,.int .i64 y] 86):=⟨_,rfl⟩
 have aB:Below az.heap.size az aC:=by rw[A];exact(Below.refl _ _).alloc (Nat.le_refl _) _
 have V:=hid (show Mq w0.heap.size az.heap.size #[.int .i64 k,.string x,.int .i64 y] 86 v aC from Mq.of St.out (by rw[A];exact Bk.new _ _ _) (Nat.le_refl _))
 have aV:=hid (show aC.heap.size=az.heap.size+1 by rw[A];simp)
 have N:=hid (St.keep aB)
 have F:=hid (aK.keep aB)
 have aq:=hid (aQ.trans (Gr.quiet aB))
 clear aB
 have HGK:=hid (show w.heap.size+1<=az.heap.size from aO.out)
 by_cases h32:kd l (j+1)=32
 case pos=>
  have D:=hid h32
  rw[h32]at a1
  clear h32
  rcases HV.out with hk7|hk8
  ·
   have q7:(k==8)=false:=by rw[hk7];rfl
   clear hk7
   by_cases h33:kd l (j+2)=33
   case pos=>
    have HPR:=hid (show callR E l k j=fin k 0 x [] (j+3) by unfold callR;rw[if_neg (fun h=>h.2.2 D.out),<-HX.out];exact listed_nil D.out h33)
    have ap:=hid h33
    clear h33
    have H:=N.c
    have G:=F.bk.c2
    have J:=F.bk.f
    have K:=V.bk.c3
    rw[A]at H G J K
    go_wp2_with fail
    rw[<-A]
    clear H G J K A
    refine(take_yes 32 _ N.out HC.out HL.out (by decide) (by decide) D.out).mono ?_
    rintro e Z ⟨rfl,an,U⟩
    have af:=hid an
    have ai:=hid (F.go U)
    have ao:=hid (V.go U)
    have a3:=hid (aq.trans U)
    clear an U
    have aJ:=af.c
    have aL:=ai.bk.c2
    have aE:=ai.bk.f
    have aI:=ao.bk.c3
    go_wp2
    go_region_law (first|(go_simp;go_at_call 176;refine(list_empty 33 _ (by first|exact af.out|exact af.drew) HC.out aj.out (.inl rfl) ap.out).mono ?_;rintro e w5 ⟨a5,c5,ae,v5,rfl,s5,g5,l5,k5,x5⟩;have G5:Gr (X0 w0.heap.size) v v5 Z w5:=⟨g5.size,g5.keep,g5.own⟩;have K5:=Mq.go ao.out G5;have R5:=Mq.go ai.out G5;obtain⟨y0,y1,y2⟩:=K5.bk.c3;have o:=hid k5;have al:=hid x5;clear k5 x5)|(go_simp;go_at_call 172;refine(nd.make_all (nd0 k 0 x) ae a5 c5 _ l5.parts (Nat.le_trans o.out.2.2 (by have:=s5.jn;have:=aj.out;omega)) (Nat.le_trans o.out.1 (by decide)) (fun q hq t ht=>Nat.le_trans (o.out.2.1 q hq t ht) (by decide))).mono ?_;rintro e w6 ⟨T6,z6,r6,rfl,ad,O,b6,ag⟩;obtain⟨aT,cT,eT⟩:=O.form;subst eT;have R6:=R5.keep b6;obtain⟨y3,y4⟩:=R6.bk.c2;have y5:=R6.bk.f 0;have y6:=R6.bk.f 1))
    all_goals
     have S6:=s5.keep b6
     have H6:=Tq.of s5 O ag
     rw[ad]at H6
     have HLX:=R5.bk.lt
     have G6:=(a3.trans G5).trans (Gr.quiet b6)
     go_wp2
     obtain⟨u0,u1⟩:=(R6.bk.put2 (.slice aT z6.length cT) (.bool false)).c2
     exact bodyPost_ret (v:= .agg #[.slice aT z6.length cT,.bool false]) (by simp[results,Tryz.results183,go_sem,u0,u1]) rfl (by rw[HPR.out];exact rq_end HLT.out S6 G6 R6 H6 (by exact Nat.le_refl _) HLX (⟨by rw[al.out _ rfl],(put_make _ _ _ _).symm⟩))
   case neg=>
    have HPR:=hid (show callR E l k j=lstR l k x 33 (els E l 6 6 [] (j+2)) by unfold callR;rw[if_neg (fun h=>h.2.2 D.out),<-HX.out];exact listed_lst D.out (fun h=>h33 h.2))
    have ap:=hid h33
    clear h33
    have H:=N.c
    have G:=F.bk.c2
    have J:=F.bk.f
    have K:=V.bk.c3
    rw[A]at H G J K
    go_wp2_with fail
    rw[<-A]
    clear H G J K A
    refine(take_yes 32 _ N.out HC.out HL.out (by decide) (by decide) D.out).mono ?_
    rintro e Z ⟨rfl,an,U⟩
    have af:=hid an
    have ai:=hid (F.go U)
    have ao:=hid (V.go U)
    have a3:=hid (aq.trans U)
    clear an U
    have aJ:=af.c
    have aL:=ai.bk.c2
    have aE:=ai.bk.f
    have aI:=ao.bk.c3
    go_wp2
    go_region_law (first|(go_simp;go_at_call 176;refine(HLS.out D.out ap.out _ _ (by first|exact af.out|exact af.drew)).mono ?_;rintro e w5 ⟨a5,c5,ae,v5,rfl,s5,g5,l5,k5,x5⟩;have G5:Gr (X0 w0.heap.size) v v5 Z w5:=⟨g5.size,g5.keep,g5.own⟩;have K5:=Mq.go ao.out G5;have R5:=Mq.go ai.out G5;obtain⟨y0,y1,y2⟩:=K5.bk.c3;have o:=hid k5;have al:=hid x5;clear k5 x5)|(go_simp;go_at_call 172;refine(nd.make_all (nd0 k 0 x) ae a5 c5 _ l5.parts (Nat.le_trans o.out.2.2 (by have:=s5.jn;have:=aj.out;omega)) (Nat.le_trans o.out.1 (by decide)) (fun q hq t ht=>Nat.le_trans (o.out.2.1 q hq t ht) (by decide))).mono ?_;rintro e w6 ⟨T6,z6,r6,rfl,ad,O,b6,ag⟩;obtain⟨aT,cT,eT⟩:=O.form;subst eT;have R6:=R5.keep b6;obtain⟨y3,y4⟩:=R6.bk.c2;have y5:=R6.bk.f 0;have y6:=R6.bk.f 1))
    all_goals
     have S6:=s5.keep b6
     have H6:=Tq.of s5 O ag
     rw[ad]at H6
     have HLX:=R5.bk.lt
     have G6:=(a3.trans G5).trans (Gr.quiet b6)
     go_wp2
     obtain⟨u0,u1⟩:=(R6.bk.put2 (.slice aT z6.length cT) (.bool false)).c2
     exact bodyPost_ret (v:= .agg #[.slice aT z6.length cT,.bool false]) (by simp[results,Tryz.results183,go_sem,u0,u1]) rfl (by rw[HPR.out];exact rq_end HLT.out (by rw[(at_lst _ _ _ _).1,(at_lst _ _ _ _).2];exact S6) G6 R6 H6 (by exact Nat.le_refl _) HLX (gt_lst al.out o.out (by omega) (HLE.out D.out)))
  ·
   have q7:(k==8)=true:=by rw[hk8];rfl
   clear hk8
   by_cases h33:kd l (j+2)=33
   case pos=>
    have HPR:=hid (show callR E l k j=fin k 0 x [] (j+3) by unfold callR;rw[if_neg (fun h=>h.2.2 D.out),<-HX.out];exact listed_nil D.out h33)
    have ap:=hid h33
    clear h33
    have H:=N.c
    have G:=F.bk.c2
    have J:=F.bk.f
    have K:=V.bk.c3
    rw[A]at H G J K
    go_wp2_with fail
    rw[<-A]
    clear H G J K A
    refine(a1.out _ _ N.out).mono ?_
    rintro e Z ⟨rfl,C⟩
    have ac:=hid (N.keep C)
    have Q:=hid (F.keep C)
    have ab:=hid (V.keep C)
    have ax:=hid (aq.trans (Gr.quiet C))
    clear C
    have ar:=ac.c
    have aw:=Q.bk.c2
    have a0:=Q.bk.f
    have au:=ab.bk.c3
    go_wp2_with fail
    clear ar aw a0 au
    refine(take_yes 32 _ ac.out HC.out HL.out (by decide) (by decide) D.out).mono ?_
    rintro e a7 ⟨rfl,am,aa⟩
    have ah:=hid am
    have P:=hid (Q.go aa)
    have ak:=hid (ab.go aa)
    have ay:=hid (ax.trans aa)
    clear am aa
    have a6:=ah.c
    have aA:=P.bk.c2
    have a4:=P.bk.f
    have a2:=ak.bk.c3
    go_wp2
    go_region_law (first|(go_simp;go_at_call 176;refine(list_empty 33 _ (by first|exact ah.out|exact ah.drew) HC.out aj.out (.inl rfl) ap.out).mono ?_;rintro e w5 ⟨a5,c5,ae,v5,rfl,s5,g5,l5,k5,x5⟩;have G5:Gr (X0 w0.heap.size) v v5 a7 w5:=⟨g5.size,g5.keep,g5.own⟩;have K5:=Mq.go ak.out G5;have R5:=Mq.go P.out G5;obtain⟨y0,y1,y2⟩:=K5.bk.c3;have o:=hid k5;have al:=hid x5;clear k5 x5)|(go_simp;go_at_call 172;refine(nd.make_all (nd0 k 0 x) ae a5 c5 _ l5.parts (Nat.le_trans o.out.2.2 (by have:=s5.jn;have:=aj.out;omega)) (Nat.le_trans o.out.1 (by decide)) (fun q hq t ht=>Nat.le_trans (o.out.2.1 q hq t ht) (by decide))).mono ?_;rintro e w6 ⟨T6,z6,r6,rfl,ad,O,b6,ag⟩;obtain⟨aT,cT,eT⟩:=O.form;subst eT;have R6:=R5.keep b6;obtain⟨y3,y4⟩:=R6.bk.c2;have y5:=R6.bk.f 0;have y6:=R6.bk.f 1))
    all_goals
     have S6:=s5.keep b6
     have H6:=Tq.of s5 O ag
     rw[ad]at H6
     have HLX:=R5.bk.lt
     have G6:=(ay.trans G5).trans (Gr.quiet b6)
     go_wp2
     obtain⟨u0,u1⟩:=(R6.bk.put2 (.slice aT z6.length cT) (.bool false)).c2
     exact bodyPost_ret (v:= .agg #[.slice aT z6.length cT,.bool false]) (by simp[results,Tryz.results183,go_sem,u0,u1]) rfl (by rw[HPR.out];exact rq_end HLT.out S6 G6 R6 H6 (by exact Nat.le_refl _) HLX (⟨by rw[al.out _ rfl],(put_make _ _ _ _).symm⟩))
   case neg=>
    have HPR:=hid (show callR E l k j=lstR l k x 33 (els E l 6 6 [] (j+2)) by unfold callR;rw[if_neg (fun h=>h.2.2 D.out),<-HX.out];exact listed_lst D.out (fun h=>h33 h.2))
    have ap:=hid h33
    clear h33
    have H:=N.c
    have G:=F.bk.c2
    have J:=F.bk.f
    have K:=V.bk.c3
    rw[A]at H G J K
    go_wp2_with fail
    rw[<-A]
    clear H G J K A
    refine(a1.out _ _ N.out).mono ?_
    rintro e Z ⟨rfl,C⟩
    have ac:=hid (N.keep C)
    have Q:=hid (F.keep C)
    have ab:=hid (V.keep C)
    have ax:=hid (aq.trans (Gr.quiet C))
    clear C
    have ar:=ac.c
    have aw:=Q.bk.c2
    have a0:=Q.bk.f
    have au:=ab.bk.c3
    go_wp2_with fail
    clear ar aw a0 au
    refine(take_yes 32 _ ac.out HC.out HL.out (by decide) (by decide) D.out).mono ?_
    rintro e a7 ⟨rfl,am,aa⟩
    have ah:=hid am
    have P:=hid (Q.go aa)
    have ak:=hid (ab.go aa)
    have ay:=hid (ax.trans aa)
    clear am aa
    have a6:=ah.c
    have aA:=P.bk.c2
    have a4:=P.bk.f
    have a2:=ak.bk.c3
    go_wp2
    go_region_law (first|(go_simp;go_at_call 176;refine(HLS.out D.out ap.out _ _ (by first|exact ah.out|exact ah.drew)).mono ?_;rintro e w5 ⟨a5,c5,ae,v5,rfl,s5,g5,l5,k5,x5⟩;have G5:Gr (X0 w0.heap.size) v v5 a7 w5:=⟨g5.size,g5.keep,g5.own⟩;have K5:=Mq.go ak.out G5;have R5:=Mq.go P.out G5;obtain⟨y0,y1,y2⟩:=K5.bk.c3;have o:=hid k5;have al:=hid x5;clear k5 x5)|(go_simp;go_at_call 172;refine(nd.make_all (nd0 k 0 x) ae a5 c5 _ l5.parts (Nat.le_trans o.out.2.2 (by have:=s5.jn;have:=aj.out;omega)) (Nat.le_trans o.out.1 (by decide)) (fun q hq t ht=>Nat.le_trans (o.out.2.1 q hq t ht) (by decide))).mono ?_;rintro e w6 ⟨T6,z6,r6,rfl,ad,O,b6,ag⟩;obtain⟨aT,cT,eT⟩:=O.form;subst eT;have R6:=R5.keep b6;obtain⟨y3,y4⟩:=R6.bk.c2;have y5:=R6.bk.f 0;have y6:=R6.bk.f 1))
    all_goals
     have S6:=s5.keep b6
     have H6:=Tq.of s5 O ag
     rw[ad]at H6
     have HLX:=R5.bk.lt
     have G6:=(ay.trans G5).trans (Gr.quiet b6)
     go_wp2
     obtain⟨u0,u1⟩:=(R6.bk.put2 (.slice aT z6.length cT) (.bool false)).c2
     exact bodyPost_ret (v:= .agg #[.slice aT z6.length cT,.bool false]) (by simp[results,Tryz.results183,go_sem,u0,u1]) rfl (by rw[HPR.out];exact rq_end HLT.out (by rw[(at_lst _ _ _ _).1,(at_lst _ _ _ _).2];exact S6) G6 R6 H6 (by exact Nat.le_refl _) HLX (gt_lst al.out o.out (by omega) (HLE.out D.out)))
 case neg=>
  have D:=hid h32
  obtain⟨c,hcc⟩:∃c,kd l (j+1)=c:=⟨_,rfl⟩
  rw[hcc]at a1
  have aG:¬c=32:=by rw[<-hcc];exact h32
  obtain⟨q1,q2⟩:=ne_facts aG
  clear h32 hcc aG
  rcases HV.out with hk7|hk8
  ·
   have q7:(k==8)=false:=by rw[hk7];rfl
   have HCN:=hid (show¬(k=8/\isLen (tx l j)=true/\¬kd l (j+1)=32)from fun h=>by have:=h.1;omega)
   clear hk7
   have HPR:=hid (show callR E l k j= .bad (j+1) by unfold callR;rw[if_neg HCN.out];exact listed_no D.out)
   have H:=N.c
   have G:=F.bk.c2
   have J:=F.bk.f
   have K:=V.bk.c3
   rw[A]at H G J K
   go_wp2_with fail
   rw[<-A]
   clear H G J K A
   refine(take_no 32 _ N.out HC.out HL.out (by decide) (by decide) (.inr D.out)).mono ?_
   rintro e Z ⟨rfl,an,U⟩
   have af:=hid an
   have ai:=hid (F.go U)
   have ao:=hid (V.go U)
   have a3:=hid (aq.trans U)
   clear an U
   have aJ:=af.c
   have aL:=ai.bk.c2
   have aE:=ai.bk.f
   have aI:=ao.bk.c3
   go_wp2
   go_region_law (first|(go_simp;go_at_call 176;refine(list_bad 33 _ (by first|exact af.out|exact af.drew) HC.out aj.out (.inl rfl)).mono ?_;rintro e w5 ⟨a5,c5,ae,v5,rfl,s5,g5,l5,k5,x5⟩;have G5:Gr (X0 w0.heap.size) v v5 Z w5:=⟨g5.size,g5.keep,g5.own⟩;have K5:=Mq.go ao.out G5;have R5:=Mq.go ai.out G5;obtain⟨y0,y1,y2⟩:=K5.bk.c3;have o:=hid k5;have al:=hid x5;clear k5 x5)|(go_simp;go_at_call 172;refine(nd.make_all (nd0 k 0 x) ae a5 c5 _ l5.parts (Nat.le_trans o.out.2.2 (by have:=s5.jn;have:=aj.out;omega)) (Nat.le_trans o.out.1 (by decide)) (fun q hq t ht=>Nat.le_trans (o.out.2.1 q hq t ht) (by decide))).mono ?_;rintro e w6 ⟨T6,z6,r6,rfl,ad,O,b6,ag⟩;obtain⟨aT,cT,eT⟩:=O.form;subst eT;have R6:=R5.keep b6;obtain⟨y3,y4⟩:=R6.bk.c2;have y5:=R6.bk.f 0;have y6:=R6.bk.f 1))
   all_goals
    have S6:=s5.keep b6
    have H6:=Tq.of s5 O ag
    rw[ad]at H6
    have HLX:=R5.bk.lt
    have G6:=(a3.trans G5).trans (Gr.quiet b6)
    go_wp2
    obtain⟨u0,u1⟩:=(R6.bk.put2 (.slice aT z6.length cT) (.bool false)).c2
    exact bodyPost_ret (v:= .agg #[.slice aT z6.length cT,.bool false]) (by simp[results,Tryz.results183,go_sem,u0,u1]) rfl (by rw[HPR.out];exact rq_end HLT.out S6 G6 R6 H6 (by exact Nat.le_refl _) HLX (wk_make o.out.2.1 o.out.1 (by have:=o.out.2.2;simp at this;omega)))
  ·
   have q7:(k==8)=true:=by rw[hk8];rfl
   have aD:=hid hk8
   clear hk8
   cases ln with
   |false=>
    have hlen:=HLEN.out
    have HCN:=hid (show¬(k=8/\isLen (tx l j)=true/\¬kd l (j+1)=32)from fun h=>by have:=h.2.1;rw[HX.out,HLN.out]at this;cases this)
    have HPR:=hid (show callR E l k j= .bad (j+1) by unfold callR;rw[if_neg HCN.out];exact listed_no D.out)
    have H:=N.c
    have G:=F.bk.c2
    have J:=F.bk.f
    have K:=V.bk.c3
    rw[A]at H G J K
    go_wp2_with fail
    rw[<-A]
    clear H G J K A
    refine(a1.out _ _ N.out).mono ?_
    rintro e Z ⟨rfl,C⟩
    have ac:=hid (N.keep C)
    have Q:=hid (F.keep C)
    have ab:=hid (V.keep C)
    have ax:=hid (aq.trans (Gr.quiet C))
    clear C
    have ar:=ac.c
    have aw:=Q.bk.c2
    have a0:=Q.bk.f
    have au:=ab.bk.c3
    go_wp2_with fail
    clear ar aw a0 au
    refine(take_no 32 _ ac.out HC.out HL.out (by decide) (by decide) (.inr D.out)).mono ?_
    rintro e a7 ⟨rfl,am,aa⟩
    have ah:=hid am
    have P:=hid (Q.go aa)
    have ak:=hid (ab.go aa)
    have ay:=hid (ax.trans aa)
    clear am aa
    have a6:=ah.c
    have aA:=P.bk.c2
    have a4:=P.bk.f
    have a2:=ak.bk.c3
    go_wp2
    go_region_law (first|(go_simp;go_at_call 176;refine(list_bad 33 _ (by first|exact ah.out|exact ah.drew) HC.out aj.out (.inl rfl)).mono ?_;rintro e w5 ⟨a5,c5,ae,v5,rfl,s5,g5,l5,k5,x5⟩;have G5:Gr (X0 w0.heap.size) v v5 a7 w5:=⟨g5.size,g5.keep,g5.own⟩;have K5:=Mq.go ak.out G5;have R5:=Mq.go P.out G5;obtain⟨y0,y1,y2⟩:=K5.bk.c3;have o:=hid k5;have al:=hid x5;clear k5 x5)|(go_simp;go_at_call 172;refine(nd.make_all (nd0 k 0 x) ae a5 c5 _ l5.parts (Nat.le_trans o.out.2.2 (by have:=s5.jn;have:=aj.out;omega)) (Nat.le_trans o.out.1 (by decide)) (fun q hq t ht=>Nat.le_trans (o.out.2.1 q hq t ht) (by decide))).mono ?_;rintro e w6 ⟨T6,z6,r6,rfl,ad,O,b6,ag⟩;obtain⟨aT,cT,eT⟩:=O.form;subst eT;have R6:=R5.keep b6;obtain⟨y3,y4⟩:=R6.bk.c2;have y5:=R6.bk.f 0;have y6:=R6.bk.f 1))
    all_goals
     have S6:=s5.keep b6
     have H6:=Tq.of s5 O ag
     rw[ad]at H6
     have HLX:=R5.bk.lt
     have G6:=(ay.trans G5).trans (Gr.quiet b6)
     go_wp2
     obtain⟨u0,u1⟩:=(R6.bk.put2 (.slice aT z6.length cT) (.bool false)).c2
     exact bodyPost_ret (v:= .agg #[.slice aT z6.length cT,.bool false]) (by simp[results,Tryz.results183,go_sem,u0,u1]) rfl (by rw[HPR.out];exact rq_end HLT.out S6 G6 R6 H6 (by exact Nat.le_refl _) HLX (wk_make o.out.2.1 o.out.1 (by have:=o.out.2.2;simp at this;omega)))
   |true=>
    have hlen:=HLEN.out
    have HPR:=hid (show callR E l k j=fin k 0 x [] (j+1) by unfold callR;rw[if_pos ⟨aD.out,by rw[HX.out];exact HLN.out,D.out⟩,aD.out];unfold word;rw[HX.out])
    have H:=N.c
    have G:=F.bk.c2
    have J:=F.bk.f
    have K:=V.bk.c3
    rw[A]at H G J K
    go_wp2_with fail
    rw[<-A]
    clear H G J K A
    refine(a1.out _ _ N.out).mono ?_
    rintro e Z ⟨rfl,C⟩
    have ac:=hid (N.keep C)
    have Q:=hid (F.keep C)
    have ab:=hid (V.keep C)
    have ax:=hid (aq.trans (Gr.quiet C))
    clear C
    have ar:=ac.c
    have aw:=Q.bk.c2
    have a0:=Q.bk.f
    have au:=ab.bk.c3
    have TL:=hid (tq_one k 0 x ac.out ab.out (show w0.heap.size<w.heap.size+1 by have:=HLT.out;omega) HGK.out)
    obtain⟨aP,a8⟩:∃W,W=Z.alloc (.cells #[.int .i64 k,.int .i64 0,.string x,.string ⟨#[]⟩,.slice none 0 0] 33):=⟨_,rfl⟩
    rw[<-a8]at TL
    have a9:Below Z.heap.size Z aP:=by rw[a8];exact(Below.refl _ _).alloc (Nat.le_refl _) _
    have aH:=hid (ac.keep a9)
    have P:=hid (Q.keep a9)
    have ak:=hid (ab.keep a9)
    have ay:=hid (ax.trans (Gr.quiet a9))
    clear a9
    have a6:=aH.c
    have aA:=P.bk.c2
    have a4:=P.bk.f
    have a2:=ak.bk.c3
    rw[a8]at a6 aA a4 a2
    go_wp2
    rw[<-a8]
    clear ar aw a0 au a6 aA a4 a2 a8
    obtain⟨aR,aS⟩:=(P.bk.put2 (.slice (some ⟨Z.heap.size,0,none⟩) 1 1) (.bool false)).c2
    exact bodyPost_ret (v:= .agg #[.slice (some ⟨Z.heap.size,0,none⟩) 1 1,.bool false]) (by simp[results,Tryz.results183,go_sem,aR,aS]) rfl (by rw[HPR.out];exact rq_end HLT.out aH.out ay.out P.out TL.out (by exact Nat.le_refl _) (by exact Nat.lt_succ_self _) (⟨leaf_make _ _ _,rfl⟩))
end
end Go.Proofs.YtebjmdpkobhcbaaGreatDoor.qs
