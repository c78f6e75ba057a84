/- A part of the proof; no condition of its own. -/
import Derived.Test.YtebjmdpkobhcbaaGreatDoorDPeMath
namespace Go.Proofs.YtebjmdpkobhcbaaGreatDoor.pe
open Go.RowKit
open nd (Nd makeT)
open tk (Tk)
open ps (Ps fits kidI top posOk forb)
open lv (levelOf opLevel)
open rt (isLval)
open operand (begins)
set_option linter.unusedVariables false
set_option linter.unusedSimpArgs false
set_option maxRecDepth 20000
def cp(L:Int)(i g:Bool):Ps:=⟨L,false,i,g,false⟩
theorem asg_c{c:Int}(h:isAsg c=true):ctK c=15∧ctO c=c∧ctN c=2:=by simp[ctK,ctO,ctN,h]
theorem inc_vals{c:Int}(h:isInc c=true):c=51∨c=52:=by simpa [isInc]using h
theorem inc_c{c:Int}(h:isInc c=true):ctK c=10∧ctO c=c∧ctN c=1:=by rcases inc_vals h with rfl|rfl<;>exact⟨rfl,rfl,rfl⟩
theorem beg_vals{c:Int}(h:begins c=true):c=3∨c=4∨c=6∨c=7∨c=8∨c=32∨c=68:=by simpa [begins,or_assoc]using h
theorem beg_c{c:Int}(h:begins c=true):ctK c=12∧ctO c=99∧ctN c=2∧opLevel c=0:=by rcases beg_vals h with rfl|rfl|rfl|rfl|rfl|rfl|rfl<;>exact⟨rfl,rfl,rfl,rfl⟩
theorem op_vals{c:Int}(h:opLevel c≠0):c=44∨c=45∨c=67∨c=46∨c=63∨c=48∨c=47∨c=50∨c=62∨c=49∨c=99∨c=55∨c=56∨c=57∨c=58∨c=59∨c=60:=by
 unfold opLevel at h
 repeat' split at h
 all_goals first|(exact absurd rfl h)|(rename_i x;simp[lv.has]at x;omega)
theorem op_c{c:Int}(h:opLevel c≠0):ctK c=12∧ctO c=c∧ctN c=2:=by rcases op_vals h with rfl|rfl|rfl|rfl|rfl|rfl|rfl|rfl|rfl|rfl|rfl|rfl|rfl|rfl|rfl|rfl|rfl<;>exact⟨rfl,rfl,rfl⟩
inductive Cls (c:Int):Prop
 |asg (h:isAsg c=true)
 |inc (h:isInc c=true)
 |quest (h:c=65)
 |inn (h:c=24)
 |beg (h:begins c=true)
 |op (h:opLevel c≠0)
 |none (h:ctK c=0) (ho:ctO c=0)
theorem cls(c:Int):Cls c:=by
 by_cases h1:isAsg c=true
 ·exact .asg h1
 by_cases h2:isInc c=true
 ·exact .inc h2
 by_cases h3:c=65
 ·exact .quest h3
 by_cases h4:c=24
 ·exact .inn h4
 by_cases h5:begins c=true
 ·exact .beg h5
 by_cases h6:opLevel c≠0
 ·exact .op h6
 ·refine .none ?_ ?_
  ·simp only[ctK,if_neg h1,if_neg h2,if_neg h3,if_neg h4,if_neg h5,if_neg h6]
  ·simp only[ctO,if_neg h1,if_neg h2,if_neg h3,if_neg h4,if_neg h5,if_neg h6]
def lev(c:Int):Int:=levelOf (ctK c) (ctO c)
def k0(c:Int):Int:=(ps.lvls (ctK c) (ctO c)).1
def fb(c:Int)(i g:Bool):Bool:=(i&&c==24)||(g&&c==62)
section
variable {E:Ps→Nat→R} {l:List Tk} {M:Nat} {p p':Ps}
def Sd(M:Nat)(l:List Tk)(i0:Nat)(lv:Int)(t:List Nd)(i:Nat):Prop:=Ok M l i0 (.ok lv true t i)
theorem sd_step(hE:∀p i,i≤l.length→Ok M l i (E p i))(hM:∀t∈l,t.s.size≤M)(hb:l.length≤100000){i0 i j:Nat}{lv lv':Int}{tg' tg:Bool}{t t':List Nd}(h:Sd M l i0 lv t i)(hg:goes (kd l i) lv tg p=true)(hs:step E l (kd l i) p t i= .ok lv' tg' t' j):Sd M l i0 lv' t' j∧i<j:=by
 obtain⟨h1,h2,h3,h4,h5,h6⟩:=h
 have:=step_ok hE hM hb (p:=p) h6 h2 (by omega) (by unfold goes at hg;rw[Bool.and_eq_true]at hg;exact hg.1)
 rw[hs]at this
 obtain⟨a1,a2,a3,a4,a5,a6⟩:=this
 exact⟨⟨by omega,a2,a3,by omega,a5,a6⟩,a1⟩
theorem go_stop{n:Nat}{lv:Int}{tg:Bool}{t:List Nd}{i:Nat}(h:goes (kd l i) lv tg p=false)(hn:0<n):go E l p n lv tg t i= .ok lv tg t i:=by
 obtain⟨n,rfl⟩:∃k,n=k+1:=⟨n-1,by omega⟩
 unfold go
 rw[if_neg (by simp[h])]
theorem go_next{n:Nat}{lv:Int}{tg:Bool}{t:List Nd}{i:Nat}(h:goes (kd l i) lv tg p=true):go E l p (n+1) lv tg t i=(match step E l (kd l i) p t i with| .bad j=> .bad j| .ok lv' tg' t' j=>go E l p n lv' tg' t' j):=by
 conv=>lhs;unfold go
 rw[if_pos h]
 cases step E l (kd l i) p t i<;>rfl
end
end Go.Proofs.YtebjmdpkobhcbaaGreatDoor.pe
