/- A part of the proof; no condition of its own. -/
import Derived.Test.YtebjmdpkobhcbaaGreatDoorZGQ
import Derived.Test.YtebjmdpkobhcbaaGreatDoorZGKd
namespace Go.Proofs.YtebjmdpkobhcbaaGreatDoor.qs
open Go.ChangeShapes Go.WideShapes Go.ChangeAt Go.RowKit
open tk (Tk)
open nd (Nd PT KidV makeT)
open ps (Ps posOk)
open pe
open rt (isLval)
open operand (begins)
open lv (opLevel levelOf has)
open pr (Bk Gr X0 below_drewN eq_facts ne_facts fld_k fld_s)
set_option linter.unusedVariables false
set_option linter.unusedSimpArgs false
set_option maxRecDepth 20000
section
variable {w0:World} {l:List Tk} {a:Option Addr} {cap:Nat} {N0:List Tk} {s j:Nat} {v:Value} {E:Ps→Nat→R} {M:Nat}
theorem rgt_range{L:Int}(h:binL L):1≤rgt L∧rgt L≤15:=by
 unfold binL at h
 rcases h with rfl|rfl|rfl|rfl|rfl|rfl|rfl<;>decide
theorem rgt_sides{L:Int}(h:binL L):(ps.sdS L).2=rgt L:=by
 unfold binL at h
 rcases h with rfl|rfl|rfl|rfl|rfl|rfl|rfl<;>rfl
theorem behind_op{L c:Int}{g:Bool}{m:Nat}(h:binL L)(h8:¬L=8)(ho:isOp L g c=true):behind l c m=if L=3∨L=4 then sk l (m+1)else m+1:=by
 unfold isOp at ho
 rw[if_neg h8]at ho
 simp only[Bool.and_eq_true,beq_iff_eq,Bool.not_eq_true',beq_eq_false_iff_ne]at ho
 obtain⟨⟨⟨h0,o⟩,hop⟩,-⟩:=ho
 have hv:=op_vals (c:=c) (by unfold binL at h;omega)
 unfold behind
 rcases hv with rfl|rfl|rfl|rfl|rfl|rfl|rfl|rfl|rfl|rfl|rfl|rfl|rfl|rfl|rfl|rfl|rfl<;>simp[opLevel,has]at hop<;>subst hop<;>first|rfl|exact absurd rfl h8
theorem op_kind{L c:Int}{g:Bool}(h:binL L)(h8:¬L=8)(ho:isOp L g c=true):¬c=0∧¬c=2∧levelOf 12 c=L:=by
 unfold isOp at ho
 rw[if_neg h8]at ho
 simp only[Bool.and_eq_true,beq_iff_eq,Bool.not_eq_true',beq_eq_false_iff_ne]at ho
 obtain⟨⟨⟨h0,o⟩,hop⟩,-⟩:=ho
 refine⟨h0, ?_,by simpa [levelOf]using hop⟩
 rintro rfl
 unfold binL at h
 have:opLevel 2=0:=rfl
 omega
def WayC(M:Nat)(l:List Tk)(E:Ps→Nat→R)(L:Int)(i g:Bool)(j:Nat)(T:R)(K m:Nat)(bd:Bool)(t:List Nd)(h:Bool):Prop:=
 (bd=true∧T= .bad m∧Wk (2*(m-j)) t)∨(bd=false∧∃lv tg t' gf,GtR j t h (.ok lv tg t' m)∧Ok M l j (.ok lv tg t' m)∧T=go E l (cp L i g) gf lv tg t' m∧l.length-m<gf∧goes (kd l m) lv tg (cp (L+1) i g)=false∧((K=0∧L+1≤lv)∨(0<K∧lv=L∧tg=false))∧j+K<m)
def chainR(E:Ps→Nat→R)(l:List Tk)(L:Int)(i g:Bool):R→R
 | .bad m=> .bad m
 | .ok lv tg t m=>go E l (cp L i g) (l.length+1) lv tg t m
theorem way_next{L:Int}{i g:Bool}{T r:R}{K m m':Nat}{op:Int}{t1 t2:List Nd}{h1 h2:Bool}{lv:Int}{tg:Bool}{t':List Nd}{gf:Nat}(hL:binL L)(hop:levelOf 12 op=L)(hx:GtR j t1 h1 (.ok lv tg t' m))(ox:Ok M l j (.ok lv tg t' m))(hT:T=go E l (cp L i g) gf lv tg t' m)(hg:l.length-m<gf)(hgo:goes (kd l m) lv tg (cp L i g)=true)(hs:pe.step E l (kd l m) (cp L i g) t' m=over2 12 op t' r)(hm:m≤m')(hy:GtR m' t2 h2 r)(oy:Ok M l m' r)(hK:j+K<m)(hmm:m<m'∨m=m')(hlen:l.length≤3000):
  WayC M l E L i g j T (K+1) (atQ r) (bdQ r) (makeT (nd0 12 op ⟨#[]⟩) [t1,t2]) false:=by
 obtain⟨gf,rfl⟩:∃k,gf=k+1:=⟨gf-1,by omega⟩
 rw[go_next hgo,hs]at hT
 have hgt:=gt_over2 hx ox hm hy oy (k:=12) (op:=op)
 cases r with
 |bad m2=>exact .inl ⟨rfl,hT,hgt⟩
 |ok lv2 tg2 u m2=>
  refine .inr ⟨rfl,levelOf 12 op,isLval 12,_,gf,hgt, ?_,hT, ?_, ?_,.inr ⟨Nat.succ_pos _,hop,rfl⟩, ?_⟩
  ·obtain⟨rfl,-⟩:=hx
   obtain⟨rfl,-⟩:=hy
   obtain⟨a1,a2,a3,a4,a5,a6⟩:=ox
   obtain⟨b1,b2,b3,b4,b5,b6⟩:=oy
   exact ok_fin (by rw[hop];unfold binL at hL;omega) (Nat.zero_le _) (by simp) (fun q hq=>by simp at hq;rcases hq with rfl|rfl<;>assumption) (by show j<m2;omega) b2 (by omega) (by simp only[nd.sumL,atQ];omega)
  ·have:=oy.1;have:=oy.2.1;simp only[atQ];omega
  ·have hr:1≤L+1∧L+1≤15:=by unfold binL at hL;omega
   rw[hop]
   exact no_low (cp_ok hr.1 hr.2) (show L<L+1 by omega)
  ·have:=oy.1;show j+(K+1)<m2;omega
def RelCh(M:Nat)(w0:World)(l:List Tk)(a:Option Addr)(cap:Nat)(N0:List Tk)(s j:Nat)(E:Ps→Nat→R)(L:Int)(pl:Int)(pd pi pg psg:Bool)(most:Nat)(T:R)(v:Value)(w:World)(gX:Nat)(n:Value)(wr:World):Prop:=
 ∃(K m:Nat) (bd:Bool) (v':Value) (aT:Option Addr) (cT:Nat) (t:List Nd) (h:Bool) (B:Nat),n= .int .i64 (K:Int)∧K≤most∧Sq w0 l a cap N0 s m bd v' wr∧Gr (X0 w0.heap.size) v v' w wr∧Mq w0.heap.size w.heap.size #[.int .i64 pl,.bool pd,.bool pi,.bool pg,.bool psg] 44 v' wr∧Mq w0.heap.size (w.heap.size+1) #[.slice none 0 0,.bool false] 95 v' wr∧Mq w0.heap.size gX #[.slice aT t.length cT,.bool h] 95 v' wr∧Tq w0.heap.size B (.slice aT t.length cT) t v' wr∧w.heap.size+1<B∧WayC M l E L pi pg j T K m bd t h
end
end Go.Proofs.YtebjmdpkobhcbaaGreatDoor.qs
