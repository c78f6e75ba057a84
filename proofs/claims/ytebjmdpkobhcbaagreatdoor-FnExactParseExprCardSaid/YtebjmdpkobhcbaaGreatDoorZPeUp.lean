/- A part of the proof; no condition of its own. -/
import Derived.Test.YtebjmdpkobhcbaaGreatDoorZPeMath
namespace Go.Proofs.YtebjmdpkobhcbaaGreatDoor.pe
open Go.RowKit
open nd (Nd makeT)
open tk (Tk)
open ps (Ps fits kidI top posOk forb)
open lv (levelOf opLevel)
open rt (isLval)
open operand (begins)
set_option linter.unusedVariables false
set_option linter.unusedSimpArgs false
set_option maxRecDepth 20000
def cp(L:Int)(i g:Bool):Ps:=⟨L,false,i,g,false⟩
theorem posOk_cp{L:Int}{i g:Bool}(h1:1≤L)(h2:L≤15):posOk (cp L i g).l (cp L i g).d=true:=by
 simp[posOk,cp,chars.inR,h1,h2]
theorem posOk_range{L:Int}{d:Bool}(h:posOk L d=true):1≤L∧L≤15:=by
 simp[posOk,chars.inR]at h
 exact h.1
theorem asg_c{c:Int}(h:isAsg c=true):ctK c=15∧ctO c=c∧ctN c=2:=by simp[ctK,ctO,ctN,h]
theorem asg_vals{c:Int}(h:isAsg c=true):c=54∨(38≤c∧c≤43):=by simpa [isAsg]using h
theorem inc_vals{c:Int}(h:isInc c=true):c=51∨c=52:=by simpa [isInc]using h
theorem inc_c{c:Int}(h:isInc c=true):ctK c=10∧ctO c=c∧ctN c=1:=by rcases inc_vals h with rfl|rfl<;>exact⟨rfl,rfl,rfl⟩
theorem beg_vals{c:Int}(h:begins c=true):c=3∨c=4∨c=6∨c=7∨c=8∨c=32∨c=68:=by simpa [begins,or_assoc]using h
theorem beg_c{c:Int}(h:begins c=true):ctK c=12∧ctO c=99∧ctN c=2∧opLevel c=0:=by rcases beg_vals h with rfl|rfl|rfl|rfl|rfl|rfl|rfl<;>exact⟨rfl,rfl,rfl,rfl⟩
theorem op_vals{c:Int}(h:opLevel c≠0):c=44∨c=45∨c=67∨c=46∨c=63∨c=48∨c=47∨c=50∨c=62∨c=49∨c=99∨c=55∨c=56∨c=57∨c=58∨c=59∨c=60:=by
 unfold opLevel at h
 repeat' split at h
 all_goals first|(exact absurd rfl h)|(rename_i x;simp[lv.has]at x;omega)
theorem op_c{c:Int}(h:opLevel c≠0):ctK c=12∧ctO c=c∧ctN c=2:=by rcases op_vals h with rfl|rfl|rfl|rfl|rfl|rfl|rfl|rfl|rfl|rfl|rfl|rfl|rfl|rfl|rfl|rfl|rfl<;>exact⟨rfl,rfl,rfl⟩
inductive Cls (c:Int):Prop
 |asg (h:isAsg c=true)
 |inc (h:isInc c=true)
 |quest (h:c=65)
 |inn (h:c=24)
 |beg (h:begins c=true)
 |op (h:opLevel c≠0)
 |none (h:ctK c=0) (ho:ctO c=0)
theorem cls(c:Int):Cls c:=by
 by_cases h1:isAsg c=true
 ·exact .asg h1
 by_cases h2:isInc c=true
 ·exact .inc h2
 by_cases h3:c=65
 ·exact .quest h3
 by_cases h4:c=24
 ·exact .inn h4
 by_cases h5:begins c=true
 ·exact .beg h5
 by_cases h6:opLevel c≠0
 ·exact .op h6
 ·refine .none ?_ ?_
  ·simp only[ctK,if_neg h1,if_neg h2,if_neg h3,if_neg h4,if_neg h5,if_neg h6]
  ·simp only[ctO,if_neg h1,if_neg h2,if_neg h3,if_neg h4,if_neg h5,if_neg h6]
def lev(c:Int):Int:=levelOf (ctK c) (ctO c)
def k0(c:Int):Int:=(ps.lvls (ctK c) (ctO c)).1
def fb(c:Int)(i g:Bool):Bool:=(i&&c==24)||(g&&c==62)
theorem goes_eq{c lv:Int}{tg:Bool}{p:Ps}(hp:posOk p.l p.d=true):goes c lv tg p=(!(lev c==0)&&(!fb c p.i p.g&&(decide (p.l≤lev c)&&(if ctK c=15∨ctK c=10 then tg else decide (k0 c≤lv))))):=by
 obtain⟨L,d,i,g,s⟩:=p
 have hk:∀(k op:Int) (n:Nat),0<n→¬levelOf k op=0→ps.brk k op n=false→(kq k op n 0 ⟨L,d,i,g,s⟩).l=(ps.lvls k op).1:=by
  intro k op n h1 h2 h3
  unfold kq kidI
  rw[if_pos ⟨hp,by omega,by simpa using h1,h2⟩,h3]
  simp
 simp only at hp
 unfold goes may ft fits
 rw[hp]
 cases cls c with
 |asg h=>
  obtain⟨e1,e2,e3⟩:=asg_c h
  have:=asg_vals h
  simp only[lev,fb,e1,e2,forb]
  have o:(c==24)=false:=by rw[beq_eq_false_iff_ne];omega
  have y:(c==62)=false:=by rw[beq_eq_false_iff_ne];omega
  cases i<;>cases g<;>cases s<;>cases d<;>simp[levelOf,o,y]
 |inc h=>
  rcases inc_vals h with rfl|rfl<;>cases i<;>cases g<;>cases s<;>cases d<;>simp[lev,fb,ctK,ctO,isAsg,isInc,forb,levelOf]
 |quest h=>
  subst h
  have:=hk 14 0 3 (by omega) (by decide) (by decide)
  rw[show(ctK 65)=14 from rfl,show ctO 65=0 from rfl,show ctN 65=3 from rfl,this]
  cases i<;>cases g<;>cases s<;>cases d<;>simp[lev,fb,k0,ctK,ctO,isAsg,isInc,forb,levelOf]
 |inn h=>
  subst h
  have:=hk 13 0 1 (by omega) (by decide) (by decide)
  rw[show(ctK 24)=13 from rfl,show ctO 24=0 from rfl,show ctN 24=1 from rfl,this]
  cases i<;>cases g<;>cases s<;>cases d<;>simp[lev,fb,k0,ctK,ctO,isAsg,isInc,forb,levelOf]
 |beg h=>
  obtain⟨e1,e2,e3,-⟩:=beg_c h
  have:=hk 12 99 2 (by omega) (by decide) (by decide)
  have o:(c==24)=false:=by rw[beq_eq_false_iff_ne];have:=beg_vals h;omega
  have y:(c==62)=false:=by rw[beq_eq_false_iff_ne];have:=beg_vals h;omega
  rw[e1,e2,e3,this]
  simp only[lev,fb,k0,e1,e2,forb,o,y]
  cases i<;>cases g<;>cases s<;>cases d<;>simp[levelOf,Bool.and_assoc]
 |op h=>
  obtain⟨e1,e2,e3⟩:=op_c h
  have o:(c==24)=false:=by rw[beq_eq_false_iff_ne];have:=op_vals h;omega
  have hb:ps.brk 12 c 2=false:=by rcases op_vals h with rfl|rfl|rfl|rfl|rfl|rfl|rfl|rfl|rfl|rfl|rfl|rfl|rfl|rfl|rfl|rfl|rfl<;>rfl
  have:=hk 12 c 2 (by omega) (by simpa [levelOf]using h) hb
  rw[e1,e2,e3,this]
  simp only[lev,fb,k0,e1,e2,forb,o]
  cases i<;>cases g<;>cases s<;>cases d<;>simp[levelOf,Bool.and_assoc]
 |none h ho=>
  simp[lev,h,levelOf]
theorem lev_vals(c:Int):lev c=0∨(lev c=1∧ctK c=15)∨(lev c=13∧ctK c=10)∨(lev c=2∧k0 c=3)∨(lev c=5∧k0 c=5)∨(lev c=3∧k0 c=3)∨(lev c=4∧k0 c=4)∨(lev c=6∧k0 c=7)∨(lev c=7∧k0 c=8)∨(lev c=8∧k0 c=8)∨(lev c=9∧k0 c=9)∨(lev c=10∧k0 c=10)∨(lev c=12∧k0 c=13):=by
 cases cls c with
 |asg h=>obtain⟨e1,e2,e3⟩:=asg_c h;simp[lev,e1,levelOf]
 |inc h=>obtain⟨e1,e2,e3⟩:=inc_c h;simp[lev,e1,levelOf]
 |quest h=>subst h;exact .inr (.inr (.inr (.inl ⟨rfl,rfl⟩)))
 |inn h=>subst h;exact .inr (.inr (.inr (.inr (.inl ⟨rfl,rfl⟩))))
 |beg h=>obtain⟨e1,e2,e3⟩:=beg_c h;simp only[lev,k0,e1,e2];decide
 |op h=>rcases op_vals h with rfl|rfl|rfl|rfl|rfl|rfl|rfl|rfl|rfl|rfl|rfl|rfl|rfl|rfl|rfl|rfl|rfl<;>decide
 |none h ho=>exact .inl (by simp[lev,h,levelOf])
theorem kq_same{k op:Int}{n:Nat}{K:Int}{p p':Ps}(hp:posOk p.l p.d=true)(hp':posOk p'.l p'.d=true)(hi:p.i=p'.i)(hg:p.g=p'.g)(hK:1≤K∨k=6∨k=9∨k=11):kq k op n K p=kq k op n K p':=by
 unfold kq kidI
 rw[hp,hp',hi,hg]
 by_cases h:True∧0≤K∧K<(n:Int)∧¬levelOf k op=0
 ·have e:ps.nsI k op K p.s=ps.nsI k op K p'.s:=by
   unfold ps.nsI
   split
   ·rfl
   split
   ·rfl
   ·have:(K==0)=false:=by rw[beq_eq_false_iff_ne];omega
    rw[this];rfl
  simp only[e]
 ·simp only[true_and]at h
  simp[h]
section
variable {E:Ps→Nat→R} {l:List Tk} {M:Nat} {p p':Ps}
theorem step_same(hp:posOk p.l p.d=true)(hp':posOk p'.l p'.d=true)(hi:p.i=p'.i)(hg:p.g=p'.g)(c:Int)(t:List Nd)(i:Nat):step E l c p t i=step E l c p' t i:=by
 have e:∀(k op:Int) (n:Nat) (K:Int),1≤K→kq k op n K p=kq k op n K p':=fun k op n K h=>kq_same hp hp' hi hg (.inl h)
 unfold step rd2 cond
 rw[e 15 c 2 1 (by decide),e 14 0 3 1 (by decide),e 14 0 3 2 (by decide),e 12 99 2 1 (by decide),e 12 c 2 1 (by decide)]
theorem bgR_same(hp:posOk p.l p.d=true)(hp':posOk p'.l p'.d=true)(hi:p.i=p'.i)(hg:p.g=p'.g)(c:Int)(i:Nat):bgR E l c p i=bgR E l c p' i:=by
 have e:∀(k op:Int) (n:Nat),k=6∨k=9∨k=11→kq k op n 0 p=kq k op n 0 p':=fun k op n h=>kq_same hp hp' hi hg (.inr h)
 unfold bgR pfx
 rw[e 6 0 1 (by decide),e 9 c 1 (by decide),e 11 c 1 (by decide)]
theorem go_same(hp:posOk p.l p.d=true)(hp':posOk p'.l p'.d=true)(hl:p.l=p'.l)(hi:p.i=p'.i)(hg:p.g=p'.g):∀n lv tg t i,go E l p n lv tg t i=go E l p' n lv tg t i:=by
 intro n
 induction n with
 |zero=>intro lv tg t i;rfl
 |succ n ih=>
  intro lv tg t i
  unfold go
  rw[goes_eq hp,goes_eq hp',hl,hi,hg,step_same hp hp' hi hg]
  simp only[ih]
def Sd(M:Nat)(l:List Tk)(i0:Nat)(lv:Int)(t:List Nd)(i:Nat):Prop:=Ok M l i0 (.ok lv true t i)
theorem sd_step(hE:∀p i,i≤l.length→Ok M l i (E p i))(hM:∀t∈l,t.s.size≤M)(hb:l.length≤100000){i0 i j:Nat}{lv lv':Int}{tg' tg:Bool}{t t':List Nd}(h:Sd M l i0 lv t i)(hg:goes (kd l i) lv tg p=true)(hs:step E l (kd l i) p t i= .ok lv' tg' t' j):Sd M l i0 lv' t' j∧i<j:=by
 obtain⟨h1,h2,h3,h4,h5,h6⟩:=h
 have:=step_ok hE hM hb (p:=p) h6 h2 (by omega) (by unfold goes at hg;rw[Bool.and_eq_true]at hg;exact hg.1)
 rw[hs]at this
 obtain⟨a1,a2,a3,a4,a5,a6⟩:=this
 exact⟨⟨by omega,a2,a3,by omega,a5,a6⟩,a1⟩
theorem go_fuel(hE:∀p i,i≤l.length→Ok M l i (E p i))(hM:∀t∈l,t.s.size≤M)(hb:l.length≤100000){i0:Nat}:∀n m lv tg t i,Sd M l i0 lv t i→l.length-i<n→l.length-i<m→go E l p n lv tg t i=go E l p m lv tg t i:=by
 intro n
 induction n with
 |zero=>intro m lv tg t i _ h;omega
 |succ n ih=>
  intro m lv tg t i hs h1 h2
  obtain⟨m,rfl⟩:∃k,m=k+1:=⟨m-1,by omega⟩
  unfold go
  split
  ·next hg=>
   cases hr:step E l (kd l i) p t i with
   |bad j=>rfl
   |ok lv' tg' t' j=>
    obtain⟨s1,s2⟩:=sd_step hE hM hb hs hg hr
    have:=s1.2.1
    exact ih m lv' tg' t' j s1 (by omega) (by omega)
  ·rfl
theorem go_stuck:∀n lv tg t i lv' tg' t' j,go E l p n lv tg t i= .ok lv' tg' t' j→goes (kd l j) lv' tg' p=false:=by
 intro n
 induction n with
 |zero=>intro lv tg t i lv' tg' t' j h;simp[go]at h
 |succ n ih=>
  intro lv tg t i lv' tg' t' j h
  unfold go at h
  split at h
  ·cases hr:step E l (kd l i) p t i with
   |bad j=>rw[hr]at h;simp at h
   |ok a b c d=>rw[hr]at h;exact ih _ _ _ _ _ _ _ _ h
  ·next hg=>
   injection h with e1 e2 e3 e4
   subst e1;subst e2;subst e4
   simpa using hg
theorem go_stop{n:Nat}{lv:Int}{tg:Bool}{t:List Nd}{i:Nat}(h:goes (kd l i) lv tg p=false)(hn:0<n):go E l p n lv tg t i= .ok lv tg t i:=by
 obtain⟨n,rfl⟩:∃k,n=k+1:=⟨n-1,by omega⟩
 unfold go
 rw[if_neg (by simp[h])]
theorem go_next{n:Nat}{lv:Int}{tg:Bool}{t:List Nd}{i:Nat}(h:goes (kd l i) lv tg p=true):go E l p (n+1) lv tg t i=(match step E l (kd l i) p t i with| .bad j=> .bad j| .ok lv' tg' t' j=>go E l p n lv' tg' t' j):=by
 conv=>lhs;unfold go
 rw[if_pos h]
 cases step E l (kd l i) p t i<;>rfl
theorem goes_low{c lv:Int}{tg:Bool}(hp:posOk p.l p.d=true)(hp':posOk p'.l p'.d=true)(hl:p.l≤p'.l)(hi:p.i=p'.i)(hg:p.g=p'.g)(h:goes c lv tg p'=true):goes c lv tg p=true:=by
 rw[goes_eq hp']at h
 rw[goes_eq hp]
 simp only[Bool.and_eq_true,decide_eq_true_eq]at h⊢
 exact⟨h.1,by rw[hi,hg];exact h.2.1,by omega,h.2.2.2⟩
theorem go_up(hE:∀p i,i≤l.length→Ok M l i (E p i))(hM:∀t∈l,t.s.size≤M)(hb:l.length≤100000)(hp:posOk p.l p.d=true)(hp':posOk p'.l p'.d=true)(hl:p.l≤p'.l)(hi:p.i=p'.i)(hg:p.g=p'.g){i0:Nat}:∀n m lv tg t i,Sd M l i0 lv t i→l.length-i<n→l.length<m→
  go E l p n lv tg t i=(match go E l p' n lv tg t i with| .bad j=> .bad j| .ok lv' tg' t' j=>go E l p m lv' tg' t' j):=by
 intro n
 induction n with
 |zero=>intro m lv tg t i _ h;omega
 |succ n ih=>
  intro m lv tg t i hs h1 h2
  by_cases hgo:goes (kd l i) lv tg p'=true
  ·have o:=goes_low hp hp' hl hi hg hgo
   rw[go_next o,go_next hgo,step_same hp hp' hi hg]
   cases hr:step E l (kd l i) p' t i with
   |bad j=>rfl
   |ok lv' tg' t' j=>
    obtain⟨s1,s2⟩:=sd_step hE hM hb hs hgo hr
    have:=s1.2.1
    exact ih m lv' tg' t' j s1 (by omega) h2
  ·rw[go_stop (E:=E) (p:=p') (by simpa using hgo) (Nat.succ_pos _)]
   exact go_fuel hE hM hb _ _ _ _ _ _ hs h1 (by omega)
end
theorem ex_succ(l:List Tk)(f:Nat)(p:Ps)(i:Nat):ex l (f+1) p i=(match first (ex l f) l p i with| .bad j=> .bad j| .ok lv tg t j=>go (ex l f) l p (l.length+1) lv tg t j):=rfl
theorem ex_up{l:List Tk}{M:Nat}(hM:∀t∈l,t.s.size≤M)(hb:l.length≤100000){f i:Nat}{p p':Ps}(hi0:i≤l.length)(hp:posOk p.l p.d=true)(hp':posOk p'.l p'.d=true)(hl:p.l≤p'.l)(hi:p.i=p'.i)(hg:p.g=p'.g)(hf:first (ex l f) l p i=first (ex l f) l p' i):
  ex l (f+1) p i=(match ex l (f+1) p' i with| .bad j=> .bad j| .ok lv tg t j=>go (ex l f) l p (l.length+1) lv tg t j):=by
 have hE:=ex_ok hM hb f
 have h1:=first_ok (p:=p') hE hM hb hi0
 rw[ex_succ,ex_succ l f p' i,hf]
 cases hr:first (ex l f) l p' i with
 |bad j=>rfl
 |ok lv tg t j=>
  rw[hr]at h1
  refine(go_up hE hM hb hp hp' hl hi hg (l.length+1) (l.length+1) lv tg t j (i0:=i) (show Sd M l i lv t j from h1) (by omega) (by omega)).trans ?_
  simp only
theorem ex_stuck{l:List Tk}{f i j:Nat}{p:Ps}{lv:Int}{tg:Bool}{t:List Nd}(h:ex l f p i= .ok lv tg t j):goes (kd l j) lv tg p=false:=by
 cases f with
 |zero=>simp[ex]at h
 |succ f=>
  unfold ex at h
  cases hr:first (ex l f) l p i with
  |bad j=>simp only[hr]at h;simp at h
  |ok a b c d=>simp only[hr]at h;exact go_stuck _ _ _ _ _ _ _ _ _ h
theorem first_same{E:Ps→Nat→R}{l:List Tk}{p p':Ps}{i:Nat}(hp:posOk p.l p.d=true)(hp':posOk p'.l p'.d=true)(hi:p.i=p'.i)(hg:p.g=p'.g)(h1:kd l i=32→many p=many p')(h2:¬kd l i=32→ft (bgK (kd l i)) (bgO (kd l i)) p=ft (bgK (kd l i)) (bgO (kd l i)) p'):first E l p i=first E l p' i:=by
 unfold first
 by_cases h:kd l i=32
 ·rw[if_pos h,if_pos h]
  unfold group
  rw[h1 h]
 ·rw[if_neg h,if_neg h,h2 h,bgR_same hp hp' hi hg]
end Go.Proofs.YtebjmdpkobhcbaaGreatDoor.pe
