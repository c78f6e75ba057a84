/-

-/
import Derived.Test.YtnoagleifffkcaaGreatDoorZoTk
import Derived.Laws.OwnMore
import Derived.Deep.AppendLies
namespace Go.Proofs.YtnoagleifffkcaaGreatDoor.own
open Go.RowKit
open tk
set_option linter.unusedVariables false
def flat:List Tk→List Value
 |[]=>[]
 |t::l=> .int .i64 t.k:: .string t.s:: .int .i64 t.a::flat l
theorem flat_append(l m:List Tk):flat (l++m)=flat l++flat m:=by
 induction l with
 |nil=>rfl
 |cons t l ih=>simp[flat,ih]
theorem flat_snoc(l:List Tk)(t:Tk):flat (l++[t])=flat l++[.int .i64 t.k,.string t.s,.int .i64 t.a]:=by
 rw[flat_append];rfl
def Own(B:Nat)(v:Value)(l:List Tk)(w:World):Prop:=w.ownsRow B 75 3 v l.length (flat l)
theorem Own.nil(B:Nat)(w:World):Own B (.slice none 0 0) [] w:=World.ownsRow_nil _ _ _ _
theorem Own.form{B:Nat}{v:Value}{l:List Tk}{w:World}(h:Own B v l w):∃a cap,v= .slice a l.length cap:=by
 rcases h.2 with ⟨hv,h0⟩|⟨g,cap,_,hv,_⟩
 ·exact⟨none,0,by rw[hv,h0]⟩
 ·exact⟨_,_,hv⟩
theorem Own.up{B B':Nat}{v:Value}{l:List Tk}{w:World}(h:Own B v l w)(hB:B'≤B):Own B' v l w:=
 ⟨h.1,h.2.elim .inl (fun⟨g,cap,cur,hv,hg,r⟩=> .inr ⟨g,cap,cur,hv,Nat.le_trans hB hg,r⟩)⟩
theorem Own.lies{B:Nat}{v:Value}{l:List Tk}{w:World}{a:Option Addr}{n cap:Nat}(h:Own B v l w)(hv:v= .slice a n cap):Lies w.heap.size w a l:=by
 rcases h.2 with ⟨_,h0⟩|⟨g,c,cur,hv',hg,hblk,hl,hcm,hcs,htk⟩
 ·exact .inl (List.length_eq_zero_iff.1 h0)
 ·rw[hv]at hv'
  injection hv' with ha _ _
  subst ha
  have hlt:g<w.heap.size:=by
   rcases Nat.lt_or_ge g w.heap.size with h'|h'
   ·exact h'
   ·rw[Array.getElem?_eq_none h']at hblk;cases hblk
  refine .inr ⟨g,0,rfl,hlt,fun i hi=> ?_⟩
  have hx:∀(l:List Tk) i (hi:i<l.length),(flat l)[i*3]? =some (.int .i64 l[i].k)∧(flat l)[i*3+1]? =some (.string l[i].s)∧(flat l)[i*3+2]? =some (.int .i64 l[i].a):=by
   intro l
   induction l with
   |nil=>intro i hi;simp at hi
   |cons t l ih=>
    intro i hi
    match i with
    |0=>exact⟨rfl,rfl,rfl⟩
    |j+1=>
     have:=ih j (by simpa using hi)
     simp only[flat,show(j+1)*3=j*3+1+1+1 by omega,show j*3+1+1+1+1=(j*3+1)+1+1+1 by omega,show j*3+1+1+1+2=(j*3+2)+1+1+1 by omega,List.getElem?_cons_succ,List.getElem_cons_succ]
     exact this
  obtain⟨x0,x1,x2⟩:=hx l i hi
  have hc:∀j v,(flat l)[j]? =some v→w.cell? ⟨g,j,none⟩=some v:=by
   intro j u hj
   rw[cell_of_row w g j _ _ _ hblk]
   rw[←htk,List.getElem?_take]at hj
   split at hj
   ·simpa using hj
   ·cases hj
  rw[Nat.zero_add]
  exact⟨hc _ _ x0,hc _ _ x1,hc _ _ x2⟩
theorem Own.blk{B:Nat}{v:Value}{l:List Tk}{w:World}(h:Own B v l w)(h0:0<l.length):∃g cap,v= .slice (some ⟨g,0,none⟩) l.length cap∧B≤g∧Blk w g cap l:=by
 rcases h.2 with ⟨_,h1⟩|⟨g,cap,cur,hv,hg,hblk,hl,hcm,hcs,htk⟩
 ·omega
 ·refine⟨g,cap,hv,hg,cur,hblk,hcs,hl,fun i hi=> ?_⟩
  have hat:=h.lies hv
  obtain⟨b,o,hb,_,hc⟩:=lies_at hat hi
  injection hb with hb
  injection hb with hb1 hb2 _
  subst hb1 hb2
  have:=hc i hi
  rw[Nat.zero_add]at this
  obtain⟨x0,x1,x2⟩:=this
  rw[cell_of_row w g _ _ _ _ hblk]at x0 x1 x2
  exact⟨x0,x1,x2⟩
theorem Own.keep{B B':Nat}{v:Value}{l:List Tk}{w w':World}(h:Own B v l w)(hb:Below B' w w')(hB:w.heap.size≤B'):Own B v l w':=by
 refine⟨h.1,h.2.elim .inl (fun⟨g,cap,cur,hv,hg,hblk,r⟩=> .inr ⟨g,cap,cur,hv,hg, ?_,r⟩)⟩
 have hlt:g<w.heap.size:=by
  rcases Nat.lt_or_ge g w.heap.size with h'|h'
  ·exact h'
  ·rw[Array.getElem?_eq_none h']at hblk;cases hblk
 rw[hb.block g (by omega)]
 exact hblk
end Go.Proofs.YtnoagleifffkcaaGreatDoor.own

namespace Go.Proofs.YtnoagleifffkcaaGreatDoor.own
open Go.RowKit
open tk
set_option linter.unusedVariables false
theorem wpList_append_tok2(w:World)(t:Tk){ops:Array Oper}{rest:List Oper}{o:Oper}{a:Act}{Q:Exit→Act→World→Prop}(hgd:o.guard=none)(s x:Operand)
  (ho:o.op= .call {callee:= .builtin .append,args:= #[s,x],argTypes:= #[30,30]}) (B:Nat) (v:Value) (d:List Tk) (hs:a.eval s=v)
  (hown:Own B v d w) (hx:a.eval x= .slice (some ⟨w.heap.size,0,none⟩) 1 1) (hn:d.length≤1048576) (hB:B≤w.heap.size)
  (h:∀g cap w',Own B (.slice (some ⟨g,0,none⟩) (d.length+1) cap) (d++[t]) w'→Below B w w'→w.grownBy w' v.ownBlock→(v.ownBlock=some g∨w.heap.size≤g)→wpList Tryz.prog ops Q rest (a.put o.dst (.slice (some ⟨g,0,none⟩) (d.length+1) cap)) w'):
  wpList Tryz.prog ops Q (o::rest) a (w.alloc (.cells #[.int .i64 t.k,.string t.s,.int .i64 t.a] 75)):=by
 obtain⟨i0,hi,y,F,e⟩:=info_parts Tryz.infoTok
 refine wpList_append_lies _ hgd s x 30 ho B 75 i0 _ 3 32 Tryz.underlying30 hi y F e rfl (by decide) v d.length (flat d) hs (hown.alloc _) ⟨w.heap.size,0,none⟩ 1 1 [.int .i64 t.k,.string t.s,.int .i64 t.a] hx rfl ?_ ?_ (by decide) (by unfold maxLen;omega) (by omega) (by simp;omega) (w.heap.size+1) (by simp) ?_
 ·intro j u hj
  rw[show((⟨w.heap.size,0,none⟩:Addr).add j)=⟨w.heap.size,j,none⟩ by unfold Addr.add;split<;>simp_all]
  rw[cell_of_row _ w.heap.size j _ _ _ (heap_alloc_new w _)]
  simpa using hj
 ·intro u hu
  simp at hu
  rcases hu with rfl|rfl|rfl<;>rfl
 ·intro g cap w' hown' hg hor _
  refine h g cap w' ?_ ?_ ?_ (hor.imp id (fun h=>by omega))
  ·unfold Own
   rw[flat_snoc,List.length_append]
   exact hown'
  ·refine((Below.refl B w).alloc hB _).grown hg (by simp;omega) ?_
   intro k hk
   exact(World.ownsRow.lt hown k hk).1
  ·exact⟨hg.os,hg.tape,hg.output,by have:=hg.size;simp at this;omega,fun k hk hne=>by rw[hg.block k (by simp;omega) hne];exact Below.heap_alloc w _ k hk⟩
theorem Own.grown{B p:Nat}{v:Value}{l:List Tk}{w w':World}(h:Own B v l w)(hg:w.grownBy w' (some p))(hp:p<B):Own B v l w':=by
 refine World.ownsRow.kept h hg ?_
 cases e:v.ownBlock with
 |none=>exact .inl rfl
 |some k=>
  right
  have:=(World.ownsRow.lt h k e).1
  intro e2
  injection e2 with e2
  omega
end Go.Proofs.YtnoagleifffkcaaGreatDoor.own
