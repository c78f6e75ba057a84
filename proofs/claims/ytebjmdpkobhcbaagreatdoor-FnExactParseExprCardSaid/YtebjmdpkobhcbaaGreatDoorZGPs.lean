/- A part of the proof; no condition of its own. -/
import Derived.Test.YtebjmdpkobhcbaaGreatDoorZPeUp
import Derived.Test.YtebjmdpkobhcbaaGreatDoorZBareC
namespace Go.Proofs.YtebjmdpkobhcbaaGreatDoor.pe
open Go.RowKit
open nd (Nd makeT)
open tk (Tk)
open ps (Ps fits kidI top posOk forb)
open lv (levelOf opLevel has)
open rt (isLval)
open operand (begins)
open pb (opB clB opN clN)
set_option linter.unusedVariables false
set_option linter.unusedSimpArgs false
set_option maxRecDepth 20000
def rootK(t:List Nd):Int:=(t.getLast?.map (·.k)).getD 0
theorem root_make(n:Nd)(ps:List (List Nd)):rootK (makeT n ps)=n.k:=by unfold rootK makeT;simp
section
variable {E:Ps→Nat→R} {l:List Tk} {p:Ps}
theorem els1(i:Nat):els E l 1 1 [] i=match E top i with| .bad j=> .bad j| .ok _ _ t j=> .ok [t] j:=by
 unfold els
 cases E top i<;>simp
theorem fin_lv{k op:Int}{s:ByteArray}{ps:List (List Nd)}{j j':Nat}{lv:Int}{tg:Bool}{t:List Nd}(h:fin k op s ps j= .ok lv tg t j'):lv=levelOf k op∧tg=isLval k∧rootK t=k∧j=j':=by
 unfold fin at h
 injection h with h1 h2 h3 h4
 subst h1;subst h2;subst h3;subst h4
 exact⟨rfl,rfl,by rw[root_make];rfl,rfl⟩
theorem inn_lv{ps:List (List Nd)}{j j':Nat}{lv:Int}{tg:Bool}{t:List Nd}(h:inn l ps j= .ok lv tg t j'):lv=5∧tg=isLval 13∧rootK t=13:=by
 unfold inn at h
 split at h
 ·split at h
  ·obtain⟨h1,h2,h3,-⟩:=fin_lv h;exact⟨h1,h2,h3⟩
  ·simp at h
 ·simp at h
theorem listed_lv{k a b:Int}{i j:Nat}{lv:Int}{tg:Bool}{t:List Nd}(h:listed E l k a b i= .ok lv tg t j):lv=levelOf k 0∧tg=isLval k∧rootK t=k:=by
 unfold listed at h
 split at h
 ·split at h
  ·obtain⟨h1,h2,h3,-⟩:=fin_lv h;exact⟨h1,h2,h3⟩
  ·cases hr:els E l 6 6 [] (i+2)with
   |bad j=>rw[hr]at h;simp at h
   |ok ps j2=>
    rw[hr]at h
    simp only at h
    split at h
    ·obtain⟨h1,h2,h3,-⟩:=fin_lv h;exact⟨h1,h2,h3⟩
    ·simp at h
 ·simp at h
theorem pfx_lv{k op:Int}{i j:Nat}{lv:Int}{tg:Bool}{t:List Nd}(h:pfx E k op p i= .ok lv tg t j):lv=levelOf k op∧tg=isLval k∧rootK t=k:=by
 unfold pfx at h
 cases hr:E (kq k op 1 0 p) (i+1)with
 |bad j=>rw[hr]at h;simp at h
 |ok a b c d=>rw[hr]at h;obtain⟨h1,h2,h3,-⟩:=fin_lv h;exact⟨h1,h2,h3⟩
theorem word_lv{k:Int}{i j:Nat}{lv:Int}{tg:Bool}{t:List Nd}(h:word l k i= .ok lv tg t j):lv=levelOf k 0∧tg=isLval k∧rootK t=k:=by
 obtain⟨h1,h2,h3,-⟩:=fin_lv h;exact⟨h1,h2,h3⟩
theorem bgR_lv{c:Int}{i j:Nat}{lv:Int}{tg:Bool}{t:List Nd}(h:bgR E l c p i= .ok lv tg t j):lv=levelOf (bgK c) (bgO c)∧tg=isLval (rootK t):=by
 unfold bgR at h
 by_cases c3:c=3
 ·subst c3;simp only[if_pos rfl]at h;obtain⟨h1,h2,h3⟩:=word_lv h;exact⟨h1,by rw[h2,h3]⟩
 rw[if_neg c3]at h
 by_cases c4:c=4
 ·subst c4;simp only[if_pos rfl]at h;obtain⟨h1,h2,h3⟩:=word_lv h;exact⟨h1,by rw[h2,h3]⟩
 rw[if_neg c4]at h
 by_cases c5:c=5
 ·subst c5;simp only[if_pos rfl]at h;obtain⟨h1,h2,h3⟩:=word_lv h;exact⟨h1,by rw[h2,h3]⟩
 rw[if_neg c5]at h
 by_cases c6:c=6
 ·subst c6;rw[if_pos rfl]at h
  split at h
  ·obtain⟨h1,h2,h3⟩:=listed_lv h;exact⟨h1,by rw[h2,h3]⟩
  ·obtain⟨h1,h2,h3⟩:=word_lv h;exact⟨h1,by rw[h2,h3]⟩
 rw[if_neg c6]at h
 by_cases c7:c=7
 ·subst c7;simp only[if_pos rfl]at h;obtain⟨h1,h2,h3⟩:=listed_lv h;exact⟨h1,by rw[h2,h3]⟩
 rw[if_neg c7]at h
 by_cases c8:c=8
 ·subst c8;rw[if_pos rfl]at h
  split at h
  ·obtain⟨h1,h2,h3⟩:=word_lv h;exact⟨h1,by rw[h2,h3]⟩
  ·obtain⟨h1,h2,h3⟩:=listed_lv h;exact⟨h1,by rw[h2,h3]⟩
 rw[if_neg c8]at h
 by_cases c68:c=68
 ·subst c68;simp only[if_pos rfl]at h;obtain⟨h1,h2,h3⟩:=pfx_lv h;exact⟨h1,by rw[h2,h3]⟩
 rw[if_neg c68]at h
 by_cases c51:c=51∨c=52
 ·rw[if_pos c51]at h
  split at h
  ·obtain⟨h1,h2,h3⟩:=pfx_lv h
   refine⟨?_,by rw[h2,h3]⟩
   rcases c51 with rfl|rfl<;>exact h1
  ·simp at h
 rw[if_neg c51]at h
 split at h
 ·next h55=>
  obtain⟨h1,h2,h3⟩:=pfx_lv h
  refine⟨?_,by rw[h2,h3]⟩
  rcases h55 with rfl|rfl|rfl<;>exact h1
 ·simp at h
theorem fits_le{k op:Int}(h:ft k op p=true)(hd:p.d=false):p.l≤levelOf k op:=by
 unfold ft fits at h
 rw[hd,Bool.false_and,Bool.false_or,Bool.and_eq_true,decide_eq_true_eq]at h
 exact h.2
theorem first_lv{i j:Nat}{lv:Int}{tg:Bool}{t:List Nd}(hp:posOk p.l p.d=true)(hd:p.d=false)(h:first E l p i= .ok lv tg t j):p.l≤lv:=by
 unfold first at h
 split at h
 ·unfold group at h
  cases hr:els E l (many p) (many p) [] (i+1)with
  |bad j=>rw[hr]at h;simp at h
  |ok ps j2=>
   rw[hr]at h
   simp only at h
   split at h
   ·split at h
    ·injection h with h1
     subst h1
     exact(posOk_range hp).2
    ·next hne=>
     obtain⟨rfl,-,-⟩:=inn_lv h
     by_cases hm:ft 13 0 p=true
     ·exact fits_le hm hd
     ·have e:many p=1:=by unfold many;rw[if_neg hm]
      rw[e,els1]at hr
      cases hE:E top (i+1)with
      |bad j=>rw[hE]at hr;simp at hr
      |ok a b c d=>rw[hE]at hr;simp only at hr;injection hr with hr _;subst hr;exact absurd rfl hne
   ·simp at h
 ·split at h
  ·next hf=>
   obtain⟨rfl,-⟩:=bgR_lv h
   exact fits_le hf hd
  ·simp at h
theorem rd2_lv{k op:Int}{t t':List Nd}{i j:Nat}{lv:Int}{tg:Bool}(h:rd2 E k op p t i= .ok lv tg t' j):lv=levelOf k op∧tg=isLval k∧rootK t'=k:=by
 unfold rd2 at h
 cases hr:E (kq k op 2 1 p) i with
 |bad j=>rw[hr]at h;simp at h
 |ok a b c d=>rw[hr]at h;obtain⟨h1,h2,h3,-⟩:=fin_lv h;exact⟨h1,h2,h3⟩
theorem cond_lv{t t':List Nd}{i j:Nat}{lv:Int}{tg:Bool}(h:cond E l p t i= .ok lv tg t' j):lv=2∧tg=isLval 14∧rootK t'=14:=by
 unfold cond at h
 cases hr:E (kq 14 0 3 1 p) (i+1)with
 |bad j=>rw[hr]at h;simp at h
 |ok a b c d=>
  rw[hr]at h
  simp only at h
  split at h
  ·cases hr2:E (kq 14 0 3 2 p) (d+1)with
   |bad j=>rw[hr2]at h;simp at h
   |ok a b c d=>rw[hr2]at h;obtain⟨h1,h2,h3,-⟩:=fin_lv h;exact⟨h1,h2,h3⟩
  ·simp at h
theorem step_lv{c:Int}{t t':List Nd}{i j:Nat}{lv:Int}{tg:Bool}(hc:¬ctK c=0)(h:step E l c p t i= .ok lv tg t' j):lv=lev c∧tg=isLval (ctK c)∧rootK t'=ctK c:=by
 unfold step at h
 cases cls c with
 |asg h1=>obtain⟨e1,e2,-⟩:=asg_c h1;rw[if_pos h1]at h;unfold lev;rw[e1,e2];exact rd2_lv h
 |inc h1=>
  obtain⟨e1,e2,-⟩:=inc_c h1
  rcases inc_vals h1 with rfl|rfl<;>
  ·simp only[isAsg,isInc]at h
   obtain⟨h1,h2,h3,-⟩:=fin_lv h;exact⟨h1,h2,h3⟩
 |quest h1=>subst h1;exact cond_lv h
 |inn h1=>subst h1;exact inn_lv h
 |beg h1=>obtain⟨e1,e2,-⟩:=beg_c h1;unfold lev;rw[e1,e2];rcases beg_vals h1 with rfl|rfl|rfl|rfl|rfl|rfl|rfl<;>exact rd2_lv h
 |op h1=>obtain⟨e1,e2,-⟩:=op_c h1;unfold lev;rw[e1,e2];rcases op_vals h1 with rfl|rfl|rfl|rfl|rfl|rfl|rfl|rfl|rfl|rfl|rfl|rfl|rfl|rfl|rfl|rfl|rfl<;>exact rd2_lv h
 |none h1 _=>exact absurd h1 hc
theorem goes_k{c lv:Int}{tg:Bool}(h:goes c lv tg p=true):¬ctK c=0:=by
 intro h0
 unfold goes at h
 rw[Bool.and_eq_true]at h
 have:=fits_level h.1
 rw[h0]at this
 unfold levelOf at this
 simp at this
theorem goes_le{c lv:Int}{tg:Bool}(hd:p.d=false)(h:goes c lv tg p=true):p.l≤lev c:=by
 unfold goes at h
 rw[Bool.and_eq_true]at h
 exact fits_le h.1 hd
theorem go_lv(hd:p.d=false):∀n lv tg t i lv' tg' t' j,p.l≤lv→go E l p n lv tg t i= .ok lv' tg' t' j→p.l≤lv':=by
 intro n
 induction n with
 |zero=>intro lv tg t i lv' tg' t' j _ h;simp[go]at h
 |succ n ih=>
  intro lv tg t i lv' tg' t' j hl h
  unfold go at h
  split at h
  ·next hg=>
   cases hr:step E l (kd l i) p t i with
   |bad j=>rw[hr]at h;simp at h
   |ok a b c d=>
    rw[hr]at h
    refine ih _ _ _ _ _ _ _ _ ?_ h
    rw[(step_lv (goes_k hg) hr).1]
    exact goes_le hd hg
  ·injection h with e1
   subst e1
   exact hl
end
theorem ex_lv{l:List Tk}{f i j:Nat}{p:Ps}{lv:Int}{tg:Bool}{t:List Nd}(hp:posOk p.l p.d=true)(hd:p.d=false)(h:ex l f p i= .ok lv tg t j):p.l≤lv:=by
 cases f with
 |zero=>simp[ex]at h
 |succ f=>
  rw[ex_succ]at h
  cases hr:first (ex l f) l p i with
  |bad j=>rw[hr]at h;simp at h
  |ok a b c d=>rw[hr]at h;exact go_lv hd _ _ _ _ _ _ _ _ _ (first_lv hp hd hr) h
theorem cp_ok{L:Int}{i g:Bool}(h1:1≤L)(h2:L≤15):posOk (cp L i g).l (cp L i g).d=true:=posOk_cp h1 h2
theorem no_low{c lv:Int}{p:Ps}(hp:posOk p.l p.d=true)(h:lv<p.l):goes c lv false p=false:=by
 rw[goes_eq hp]
 rw[Bool.eq_false_iff]
 intro h2
 simp only[Bool.and_eq_true,decide_eq_true_eq]at h2
 obtain⟨h3,h4,h5,h6⟩:=h2
 split at h6
 ·cases h6
 ·next hk=>
  simp only[decide_eq_true_eq]at h6
  rcases lev_vals c with e|⟨e,e2⟩|⟨e,e2⟩|⟨e,e2⟩|⟨e,e2⟩|⟨e,e2⟩|⟨e,e2⟩|⟨e,e2⟩|⟨e,e2⟩|⟨e,e2⟩|⟨e,e2⟩|⟨e,e2⟩|⟨e,e2⟩<;>first|(rw[e]at h3;exact absurd h3 (by decide))|exact absurd (Or.inl e2) hk|exact absurd (Or.inr e2) hk|omega
theorem no_high{c lv:Int}{tg:Bool}{p:Ps}(hp:posOk p.l p.d=true)(h:13<p.l):goes c lv tg p=false:=by
 rw[goes_eq hp]
 rw[Bool.eq_false_iff]
 intro h2
 simp only[Bool.and_eq_true,decide_eq_true_eq]at h2
 obtain⟨h3,h4,h5,h6⟩:=h2
 rcases lev_vals c with e|⟨e,e2⟩|⟨e,e2⟩|⟨e,e2⟩|⟨e,e2⟩|⟨e,e2⟩|⟨e,e2⟩|⟨e,e2⟩|⟨e,e2⟩|⟨e,e2⟩|⟨e,e2⟩|⟨e,e2⟩|⟨e,e2⟩<;>omega
theorem at_level{L c lv:Int}{tg i g:Bool}(h1:1≤L)(h2:L≤14)(hs:goes c lv tg (cp (L+1) i g)=false):goes c lv tg (cp L i g)=(lev c==L&&goes c lv tg (cp L i g)):=by
 cases h:goes c lv tg (cp L i g)with
 |false=>simp
 |true=>
  rw[Bool.and_true]
  symm
  rw[beq_iff_eq]
  rw[goes_eq (cp_ok h1 (by omega))]at h
  rw[goes_eq (cp_ok (by omega) (by omega))]at hs
  simp only[Bool.and_eq_true,decide_eq_true_eq,cp]at h
  obtain⟨h3,h4,h5,h6⟩:=h
  have h5:L≤lev c:=of_decide_eq_true h5
  rw[Bool.eq_false_iff]at hs
  rcases Int.lt_or_le (lev c) (L+1)with h7|h7
  ·omega
  ·exact absurd (by simp only[Bool.and_eq_true,decide_eq_true_eq,cp];first|exact⟨h3,h4,h7,h6⟩|exact⟨h3,h4,decide_eq_true h7,h6⟩) hs
def isOp(L:Int)(g:Bool)(c:Int):Bool:=if L=8 then begins c else !(c==0)&& !(c==99)&&opLevel c==L&&(!(c==62)|| !g)
def binL(L:Int):Prop:=L=3∨L=4∨L=6∨L=7∨L=8∨L=9∨L=10
theorem is_op{L c lv:Int}{tg i g:Bool}(hL:binL L)(hc:¬c=99)(hlv:L+1≤lv∨(lv=L∧(L=3∨L=4∨L=8∨L=9∨L=10)))(hs:goes c lv tg (cp (L+1) i g)=false):goes c lv tg (cp L i g)=isOp L g c:=by
 have hr:1≤L∧L≤14:=by unfold binL at hL;omega
 rw[at_level hr.1 hr.2 hs,goes_eq (cp_ok hr.1 (by omega))]
 unfold isOp
 have F:L≤lv:=by omega
 cases cls c with
 |asg h=>
  have hv:=asg_vals h
  obtain⟨e1,e2,-⟩:=asg_c h
  have hb:begins c=false:=by rw[Bool.eq_false_iff];intro h2;have:=beg_vals h2;omega
  have ho:opLevel c=0:=by
   rcases Classical.em (opLevel c=0)with h2|h2
   ·exact h2
   ·have:=op_vals h2;omega
  have hl:lev c=1:=by unfold lev;rw[e1];rfl
  rw[hl,hb,ho]
  unfold binL at hL
  rcases hL with rfl|rfl|rfl|rfl|rfl|rfl|rfl<;>simp
 |inc h=>
  rcases inc_vals h with rfl|rfl<;>unfold binL at hL<;>rcases hL with rfl|rfl|rfl|rfl|rfl|rfl|rfl<;>rfl
 |quest h=>
  subst h
  unfold binL at hL;rcases hL with rfl|rfl|rfl|rfl|rfl|rfl|rfl<;>rfl
 |inn h=>
  subst h
  unfold binL at hL;rcases hL with rfl|rfl|rfl|rfl|rfl|rfl|rfl<;>rfl
 |beg h=>
  obtain⟨e1,e2,-,e4⟩:=beg_c h
  have hl:lev c=8:=by unfold lev;rw[e1,e2];rfl
  have hk:k0 c=8:=by unfold k0;rw[e1,e2];rfl
  have hv:=beg_vals h
  have hf:fb c i g=false:=by
   unfold fb
   have y:(c==24)=false:=by rw[beq_eq_false_iff_ne];omega
   have D:(c==62)=false:=by rw[beq_eq_false_iff_ne];omega
   rw[y,D];simp
  rw[hl,hk,h,e4,e1]
  simp only[cp]
  rw[hf]
  unfold binL at hL
  rcases hL with rfl|rfl|rfl|rfl|rfl|rfl|rfl<;>simp
  omega
 |op h=>
  obtain⟨e1,e2,-⟩:=op_c h
  have hv:=op_vals h
  have hb:begins c=false:=by
   rw[Bool.eq_false_iff];intro h2;have:=beg_vals h2;omega
  have hl:lev c=opLevel c:=by unfold lev;rw[e1,e2];rfl
  have h0:(c==0)=false:=by rw[beq_eq_false_iff_ne];omega
  have A:(c==99)=false:=by rw[beq_eq_false_iff_ne];exact hc
  have y:(c==24)=false:=by rw[beq_eq_false_iff_ne];omega
  rw[hl,e1,hb,h0,A]
  unfold fb
  rw[y]
  have hk:opLevel c=L→k0 c≤lv:=by
   intro hLc
   rcases hv with rfl|rfl|rfl|rfl|rfl|rfl|rfl|rfl|rfl|rfl|rfl|rfl|rfl|rfl|rfl|rfl|rfl<;>simp[opLevel,has]at hLc<;>subst hLc<;>simp[k0,ps.lvls,ps.sdI,ctK,ctO,isAsg,isInc,begins,opLevel,has]<;>omega
  by_cases hLc:opLevel c=L
  ·have hkk:=hk hLc
   rw[hLc]
   have o:¬L=8:=by
    rintro rfl
    rcases hv with rfl|rfl|rfl|rfl|rfl|rfl|rfl|rfl|rfl|rfl|rfl|rfl|rfl|rfl|rfl|rfl|rfl<;>first|exact hc rfl|exact absurd hLc (by decide)
   rw[if_neg o]
   have C:(L==0)=false:=by rw[beq_eq_false_iff_ne];omega
   simp only[cp,C]
   cases g<;>simp[hkk]
  ·have hx:(opLevel c==L)=false:=by rw[beq_eq_false_iff_ne];exact hLc
   rw[hx]
   by_cases o:L=8
   ·rw[if_pos o];simp
   ·rw[if_neg o];simp
 |none h ho=>
  have hb:begins c=false:=by
   rw[Bool.eq_false_iff];intro h2;rw[(beg_c h2).1]at h;exact absurd h (by decide)
  have hop:opLevel c=0:=by
   rcases Classical.em (opLevel c=0)with h2|h2
   ·exact h2
   ·rw[(op_c h2).1]at h;exact absurd h (by decide)
  have hl:lev c=0:=by unfold lev;rw[h];rfl
  rw[hl,hb,hop]
  unfold binL at hL
  rcases hL with rfl|rfl|rfl|rfl|rfl|rfl|rfl<;>simp
def rgt(L:Int):Int:=if L=3 then 4 else if L=4 then 5 else if L=6 then 7 else if L=7 then 8 else if L=8 then 9 else if L=9 then 10 else if L=10 then 11 else 11
theorem kq_bin{c L R0:Int}{i g:Bool}(hL:1≤L∧L≤15)(hc:opLevel c≠0)(h99:¬c=99):kq 12 c 2 1 (cp L i g)=cp (rgt (opLevel c)) i g:=by
 have hv:=op_vals hc
 have hb:ps.brk 12 c 2=false:=by rcases hv with rfl|rfl|rfl|rfl|rfl|rfl|rfl|rfl|rfl|rfl|rfl|rfl|rfl|rfl|rfl|rfl|rfl<;>rfl
 unfold kq kidI
 rw[if_pos ⟨cp_ok hL.1 hL.2,by decide,by decide,by simpa [levelOf]using hc⟩,hb]
 have hn:ps.nsI 12 c 1 (cp L i g).s=false:=by
  unfold ps.nsI
  simp[h99]
 rw[hn]
 have hl:(ps.lvls 12 c).2=rgt (opLevel c):=by rcases hv with rfl|rfl|rfl|rfl|rfl|rfl|rfl|rfl|rfl|rfl|rfl|rfl|rfl|rfl|rfl|rfl|rfl<;>rfl
 simp[cp,hl]
theorem kq_cat{L:Int}{i g:Bool}(hL:1≤L∧L≤15):kq 12 99 2 1 (cp L i g)=⟨9,false,i,g,true⟩:=by
 unfold kq kidI
 rw[if_pos ⟨cp_ok hL.1 hL.2,by decide,by decide,by decide⟩]
 rfl
theorem kq_asg{L c:Int}{i g:Bool}(hL:1≤L∧L≤15):kq 15 c 2 1 (cp L i g)=cp 1 i g:=by
 unfold kq kidI
 rw[if_pos ⟨cp_ok hL.1 hL.2,by decide,by decide,by simp[levelOf]⟩]
 simp[ps.brk,levelOf,ps.lvls,ps.nsI,cp]
theorem kq_cond{L K:Int}{i g:Bool}(hL:1≤L∧L≤15)(hK:K=1∨K=2):kq 14 0 3 K (cp L i g)=cp 2 i g:=by
 unfold kq kidI
 rcases hK with rfl|rfl
 ·rw[if_pos ⟨cp_ok hL.1 hL.2,by decide,by decide,by simp[levelOf]⟩];rfl
 ·rw[if_pos ⟨cp_ok hL.1 hL.2,by decide,by decide,by simp[levelOf]⟩];rfl
theorem kq_unary{L c:Int}{i g s d:Bool}(hL:posOk L d=true):kq 11 c 1 0 ⟨L,d,i,g,s⟩=cp 11 i g:=by
 unfold kq kidI
 rw[if_pos ⟨hL,by decide,by decide,by simp[levelOf]⟩]
 simp[ps.brk,levelOf,ps.lvls,ps.nsI,cp]
theorem kq_pre{L c:Int}{i g s d:Bool}(hL:posOk L d=true):kq 9 c 1 0 ⟨L,d,i,g,s⟩=cp 14 i g:=by
 unfold kq kidI
 rw[if_pos ⟨hL,by decide,by decide,by simp[levelOf]⟩]
 simp[ps.brk,levelOf,ps.lvls,ps.nsI,cp]
theorem kq_field{L:Int}{i g s d:Bool}(hL:posOk L d=true):kq 6 0 1 0 ⟨L,d,i,g,s⟩=⟨14,true,i,g,false⟩:=by
 unfold kq kidI
 rw[if_pos ⟨hL,by decide,by decide,by simp[levelOf]⟩]
 simp[ps.brk,levelOf,ps.lvls,ps.nsI]
end Go.Proofs.YtebjmdpkobhcbaaGreatDoor.pe

namespace Go.Proofs.YtebjmdpkobhcbaaGreatDoor.pe
open Go.RowKit
open nd (Nd makeT)
open tk (Tk)
open ps (Ps fits kidI top posOk forb)
open lv (levelOf opLevel has lev_range)
open rt (isLval)
open operand (begins)
open pb (opB clB opN clN)
set_option linter.unusedVariables false
set_option linter.unusedSimpArgs false
set_option maxRecDepth 20000
theorem ctk_lval(c:Int):isLval (ctK c)=false:=by
 cases cls c with
 |asg h=>rw[(asg_c h).1];rfl
 |inc h=>rw[(inc_c h).1];rfl
 |quest h=>subst h;rfl
 |inn h=>subst h;rfl
 |beg h=>rw[(beg_c h).1];rfl
 |op h=>rw[(op_c h).1];rfl
 |none h _=>rw[h];rfl
theorem no_same{L c:Int}{i g:Bool}(hL:L=1∨L=2∨L=6∨L=7∨L=12∨L=13):goes c L false (cp L i g)=false:=by
 have hp:=cp_ok (L:=L) (i:=i) (g:=g) (by omega) (by omega)
 rw[goes_eq hp]
 rw[Bool.eq_false_iff]
 intro h2
 simp only[Bool.and_eq_true,decide_eq_true_eq]at h2
 obtain⟨h3,h4,h5,h6⟩:=h2
 split at h6
 ·cases h6
 ·next hk=>
  simp only[decide_eq_true_eq]at h6
  have h:L≤lev c:=by first|exact h5|exact of_decide_eq_true h5
  rcases lev_vals c with e|⟨e,e2⟩|⟨e,e2⟩|⟨e,e2⟩|⟨e,e2⟩|⟨e,e2⟩|⟨e,e2⟩|⟨e,e2⟩|⟨e,e2⟩|⟨e,e2⟩|⟨e,e2⟩|⟨e,e2⟩|⟨e,e2⟩<;>first|(rw[e]at h3;exact absurd h3 (by decide))|exact absurd (Or.inl e2) hk|exact absurd (Or.inr e2) hk|omega
section
variable {l:List Tk} {M f j:Nat} {L:Int} {i g:Bool}
def sameB(L:Int)(c:Int)(i g:Bool):Prop:=(c=32→many (cp L i g)=many (cp (L+1) i g))∧(¬c=32→ft (bgK c) (bgO c) (cp L i g)=ft (bgK c) (bgO c) (cp (L+1) i g))
theorem ft_cp{k op:Int}(h1:1≤L)(h2:L≤15):ft k op (cp L i g)=(!(levelOf k op==0)&& !forb k op i g false&&decide (L≤levelOf k op)):=by
 unfold ft fits
 rw[cp_ok h1 h2]
 simp only[cp,Bool.true_and,Bool.false_and,Bool.false_or]
 rfl
theorem bgk_vals(c:Int):levelOf (bgK c) (bgO c)=0∨(levelOf (bgK c) (bgO c)=15∧(c=3∨c=4∨c=5∨c=6∨c=7∨c=8))∨(levelOf (bgK c) (bgO c)=14∧c=68)∨(levelOf (bgK c) (bgO c)=13∧(c=51∨c=52))∨(levelOf (bgK c) (bgO c)=11∧(c=55∨c=56∨c=61)):=by
 by_cases h:c=3∨c=4∨c=5∨c=6∨c=7∨c=8
 ·exact .inr (.inl ⟨by rcases h with rfl|rfl|rfl|rfl|rfl|rfl<;>rfl,h⟩)
 by_cases h2:c=68
 ·subst h2;exact .inr (.inr (.inl ⟨rfl,rfl⟩))
 by_cases h3:c=51∨c=52
 ·exact .inr (.inr (.inr (.inl ⟨by rcases h3 with rfl|rfl<;>rfl,h3⟩)))
 by_cases h4:c=55∨c=56∨c=61
 ·exact .inr (.inr (.inr (.inr ⟨by rcases h4 with rfl|rfl|rfl<;>rfl,h4⟩)))
 ·refine .inl ?_
  have e:bgK c=0:=by
   unfold bgK
   simp only[not_or]at h h3 h4
   rw[if_neg h.1,if_neg h.2.1,if_neg h.2.2.1,if_neg h.2.2.2.1,if_neg h.2.2.2.2.1,if_neg h.2.2.2.2.2,if_neg h2,if_neg (by omega),if_neg (by omega)]
  rw[e];rfl
theorem bgk_13(c:Int):¬bgK c=13:=by
 unfold bgK
 repeat' split
 all_goals decide
theorem bgk_12(c:Int):¬bgK c=12:=by
 unfold bgK
 repeat' split
 all_goals decide
theorem bg_forb(c:Int):forb (bgK c) (bgO c) i g false=false:=by
 unfold forb
 have h1:(bgK c==13)=false:=by rw[beq_eq_false_iff_ne];exact bgk_13 c
 have h2:(bgK c==12)=false:=by rw[beq_eq_false_iff_ne];exact bgk_12 c
 rw[h1,h2]
 simp
theorem ft_bg{c:Int}(h1:1≤L)(h2:L≤15):ft (bgK c) (bgO c) (cp L i g)=decide (L≤levelOf (bgK c) (bgO c)):=by
 rw[ft_cp h1 h2,bg_forb]
 cases h:decide (L≤levelOf (bgK c) (bgO c))with
 |false=>simp
 |true=>
  rw[decide_eq_true_eq]at h
  have:(levelOf (bgK c) (bgO c)==0)=false:=by rw[beq_eq_false_iff_ne];omega
  rw[this];rfl
theorem many_cp(h1:1≤L)(h2:L≤15):many (cp L i g)=if L≤5∧i=false then 6 else 1:=by
 unfold many
 rw[ft_cp h1 h2]
 by_cases h:L≤5∧i=false
 ·rw[if_pos h]
  obtain⟨h3,rfl⟩:=h
  have:decide (L≤levelOf 13 0)=true:=by rw[decide_eq_true_eq];exact h3
  rw[this]
  cases g<;>rfl
 ·rw[if_neg h]
  cases i with
  |true=>cases g<;>rfl
  |false=>
   have:decide (L≤levelOf 13 0)=false:=by rw[decide_eq_false_iff_not];intro h3;exact h ⟨h3,rfl⟩
   rw[this]
   simp
theorem same_b{c:Int}(h1:1≤L)(h2:L≤14)(h5:L=5→i=true∨¬c=32)(h11:L=11→¬(c=55∨c=56∨c=61))(h13:L=13→¬(c=51∨c=52))(h14:L=14→¬c=68):sameB L c i g:=by
 refine⟨fun h=> ?_,fun h=> ?_⟩
 ·rw[many_cp h1 (by omega),many_cp (by omega) (by omega)]
  by_cases hL:L=5
  ·rcases h5 hL with rfl|h6
   ·simp
   ·exact absurd h h6
  ·by_cases h6:L≤5
   ·have:L+1≤5:=by omega
    simp[h6,this]
   ·have:¬L+1≤5:=by omega
    simp[h6,this]
 ·rw[ft_bg h1 (by omega),ft_bg (by omega) (by omega)]
  congr 1
  rw[eq_iff_iff]
  rcases bgk_vals c with e|⟨e,e2⟩|⟨e,e2⟩|⟨e,e2⟩|⟨e,e2⟩<;>rw[e]<;>omega
theorem ex_next(hM:∀t∈l,t.s.size≤M)(hb:l.length≤100000)(hj:j≤l.length)(h1:1≤L)(h2:L≤14)(hs:sameB L (kd l j) i g):
  ex l (f+1) (cp L i g) j=(match ex l (f+1) (cp (L+1) i g) j with| .bad m=> .bad m| .ok lv tg t m=>go (ex l f) l (cp L i g) (l.length+1) lv tg t m):=
 ex_up hM hb hj (cp_ok h1 (by omega)) (cp_ok (by omega) (by omega)) (show L≤L+1 by omega) rfl rfl (first_same (cp_ok h1 (by omega)) (cp_ok (by omega) (by omega)) rfl rfl hs.1 hs.2)
theorem ex_once(hM:∀t∈l,t.s.size≤M)(hb:l.length≤100000)(hj:j≤l.length)(hL:L=1∨L=2∨L=6∨L=7∨L=12∨L=13)(hs:sameB L (kd l j) i g):
  ex l (f+1) (cp L i g) j=(match ex l (f+1) (cp (L+1) i g) j with| .bad m=> .bad m| .ok lv tg t m=>if goes (kd l m) lv tg (cp L i g)=true then step (ex l f) l (kd l m) (cp L i g) t m else .ok lv tg t m):=by
 rw[ex_next hM hb hj (by omega) (by omega) hs]
 have hE:=ex_ok hM hb f
 cases hr:ex l (f+1) (cp (L+1) i g) j with
 |bad m=>rfl
 |ok lv tg t m=>
  simp only
  have hst:=ex_stuck hr
  have hok:=ex_ok hM hb (f+1) (cp (L+1) i g) j hj
  rw[hr]at hok
  by_cases hg:goes (kd l m) lv tg (cp L i g)=true
  ·rw[if_pos hg,go_next hg]
   cases hr2:step (ex l f) l (kd l m) (cp L i g) t m with
   |bad m2=>rfl
   |ok lv' tg' t' m2=>
    simp only
    obtain⟨e1,e2,-⟩:=step_lv (goes_k hg) hr2
    have hl:lev (kd l m)=L:=by
     have:=at_level (by omega) (by omega) hst
     rw[hg,Bool.and_true]at this
     exact(beq_iff_eq.1 this.symm)
    have hstp:=step_ok (M:=M) hE hM hb (p:=cp L i g) (t:=t) (i:=m) hok.2.2.2.2.2 hok.2.1 (by have:=hok.2.2.2.1;have:=hok.1;have:=hok.2.1;omega) (by unfold goes at hg;rw[Bool.and_eq_true]at hg;exact hg.1)
    rw[hr2]at hstp
    rw[e1,e2,ctk_lval,hl]
    exact go_stop (no_same hL) (by have:=hstp.1;have:=hstp.2.1;omega)
  ·rw[if_neg hg]
   exact go_stop (by simpa using hg) (Nat.succ_pos _)
def paren(E:Ps→Nat→R)(l:List Tk)(j:Nat):R:=match E top (j+1)with
 | .bad m=> .bad m
 | .ok _ _ t m=>if kd l m=33 then .ok 15 false t (m+1)else .bad m
def prim(E:Ps→Nat→R)(l:List Tk)(j:Nat):R:=
 if kd l j=32 then paren E l j else if kd l j=3∨kd l j=4∨kd l j=5∨kd l j=6∨kd l j=7∨kd l j=8 then bgR E l (kd l j) top j else .bad j
theorem group_one{E:Ps→Nat→R}{p:Ps}(h:many p=1):group E l p j=paren E l j:=by
 unfold group paren
 rw[h,els1]
 cases E top (j+1)with
 |bad m=>rfl
 |ok a b t m=>simp
theorem bg_leaf{E:Ps→Nat→R}{p p':Ps}{c:Int}(h:c=3∨c=4∨c=5∨c=6∨c=7∨c=8):bgR E l c p j=bgR E l c p' j:=by
 rcases h with rfl|rfl|rfl|rfl|rfl|rfl<;>rfl
theorem first_prim{E:Ps→Nat→R}(h1:6≤L∨i=true)(h0:1≤L)(h2:L≤15)(hc:¬(L≤14∧kd l j=68))(hc2:¬(L≤13∧(kd l j=51∨kd l j=52)))(hc3:¬(L≤11∧(kd l j=55∨kd l j=56∨kd l j=61))):first E l (cp L i g) j=prim E l j:=by
 unfold first prim
 by_cases h:kd l j=32
 ·rw[if_pos h,if_pos h]
  refine group_one ?_
  rw[many_cp h0 h2,if_neg]
  rintro⟨h3,rfl⟩
  rcases h1 with h1|h1
  ·omega
  ·cases h1
 ·rw[if_neg h,if_neg h,ft_bg h0 h2]
  generalize kd l j=c at*
  rcases bgk_vals c with e|⟨e,e2⟩|⟨e,e2⟩|⟨e,e2⟩|⟨e,e2⟩
  ·rw[e,if_neg (by simp;omega),if_neg]
   rintro(rfl|rfl|rfl|rfl|rfl|rfl)<;>exact absurd e (by decide)
  ·rw[e,if_pos (by simp;omega),if_pos e2]
   exact bg_leaf e2
  ·rw[e,if_neg (by simp;omega),if_neg (by omega)]
  ·rw[e,if_neg (by simp;omega),if_neg (by omega)]
  ·rw[e,if_neg (by simp;omega),if_neg (by omega)]
theorem ex_first{p:Ps}(hp:posOk p.l p.d=true)(h:13<p.l):ex l (f+1) p j=first (ex l f) l p j:=by
 rw[ex_succ]
 cases first (ex l f) l p j with
 |bad m=>rfl
 |ok lv tg t m=>exact go_stop (no_high hp h) (Nat.succ_pos _)
theorem ex_15:ex l (f+1) (cp 15 i g) j=prim (ex l f) l j:=by
 rw[ex_first (cp_ok (by decide) (by decide)) (show(13:Int)<15 by decide)]
 exact first_prim (.inl (by decide)) (by decide) (by decide) (by omega) (by omega) (by omega)
def over1(k op:Int):R→R
 | .bad m=> .bad m
 | .ok _ _ t m=>fin k op ⟨#[]⟩ [t] m
def over2(k op:Int)(t:List Nd):R→R
 | .bad m=> .bad m
 | .ok _ _ u m=>fin k op ⟨#[]⟩ [t,u] m
theorem pfx_over{E:Ps→Nat→R}{k op:Int}{p:Ps}:pfx E k op p j=over1 k op (E (kq k op 1 0 p) (j+1)):=by unfold pfx over1;cases E (kq k op 1 0 p) (j+1)<;>rfl
theorem rd2_over{E:Ps→Nat→R}{k op:Int}{p:Ps}{t:List Nd}:rd2 E k op p t j=over2 k op t (E (kq k op 2 1 p) j):=by unfold rd2 over2;cases E (kq k op 2 1 p) j<;>rfl
theorem ex_14:ex l (f+1) (cp 14 i g) j=if kd l j=68 then over1 6 0 (ex l f ⟨14,true,i,g,false⟩ (j+1))else prim (ex l f) l j:=by
 rw[ex_first (cp_ok (by decide) (by decide)) (show(13:Int)<14 by decide)]
 by_cases h:kd l j=68
 ·rw[if_pos h]
  unfold first
  rw[if_neg (by omega),h,if_pos (by rw[ft_bg (by decide) (by decide)];rfl)]
  show pfx (ex l f) 6 0 (cp 14 i g) j=_
  rw[pfx_over]
  have:kq 6 0 1 0 (cp 14 i g)=⟨14,true,i,g,false⟩:=kq_field (cp_ok (L:=14) (i:=i) (g:=g) (by decide) (by decide))
  rw[this]
 ·rw[if_neg h]
  exact first_prim (.inl (by decide)) (by decide) (by decide) (by omega) (by omega) (by omega)
def preR(E:Ps→Nat→R)(l:List Tk)(i g:Bool)(j:Nat):R:=
 if kd l (j+1)=6∨kd l (j+1)=68 then over1 9 (kd l j) (E (cp 14 i g) (j+1))else .bad (j+1)
theorem bg_pre{E:Ps→Nat→R}{s d:Bool}(hp:posOk L d=true)(h:isInc (kd l j)=true):bgR E l (kd l j) ⟨L,d,i,g,s⟩ j=preR E l i g j:=by
 unfold preR
 have:bgR E l (kd l j) ⟨L,d,i,g,s⟩ j=if kd l (j+1)=6∨kd l (j+1)=68 then pfx E 9 (kd l j) ⟨L,d,i,g,s⟩ j else .bad (j+1):=by
  generalize kd l j=c at*
  rcases inc_vals h with rfl|rfl<;>rfl
 rw[this,pfx_over,kq_pre hp]
theorem ex_doll:ex l (f+1) ⟨14,true,i,g,false⟩ j=if isInc (kd l j)=true then preR (ex l f) l i g j else ex l (f+1) (cp 14 i g) j:=by
 have hp:posOk (⟨14,true,i,g,false⟩:Ps).l (⟨14,true,i,g,false⟩:Ps).d=true:=by rfl
 rw[ex_first hp (show(13:Int)<14 by decide),ex_first (cp_ok (by decide) (by decide)) (show(13:Int)<14 by decide)]
 by_cases h:isInc (kd l j)=true
 ·rw[if_pos h]
  have hv:=inc_vals h
  unfold first
  rw[if_neg (by omega)]
  have hf:ft (bgK (kd l j)) (bgO (kd l j)) ⟨14,true,i,g,false⟩=true:=by
   generalize kd l j=c at*
   rcases hv with rfl|rfl<;>cases i<;>cases g<;>rfl
  rw[if_pos hf]
  exact bg_pre (by rfl) h
 ·rw[if_neg h]
  refine first_same hp (cp_ok (by decide) (by decide)) rfl rfl (fun h2=> ?_) (fun h2=> ?_)
  ·unfold many ft fits
   have o:((13:Int)==9)=false:=rfl
   simp only[o,Bool.and_false,Bool.false_or,cp,posOk,chars.inR]
   rfl
  ·have h9:(bgK (kd l j)==9)=false:=by
    rw[beq_eq_false_iff_ne]
    intro h3
    have:¬(kd l j=51∨kd l j=52):=fun h4=>h (by rcases h4 with h4|h4<;>rw[h4]<;>rfl)
    generalize kd l j=c at*
    unfold bgK at h3
    repeat' (split at h3)
    all_goals first|cases h3|exact this (by assumption)
   unfold ft fits
   simp only[h9,Bool.and_false,Bool.false_or,cp,posOk,chars.inR]
   rfl
theorem goes_13{c lv:Int}{tg:Bool}(hs:goes c lv tg (cp (13+1) i g)=false):goes c lv tg (cp 13 i g)=(isInc c&&tg):=by
 rw[at_level (by decide) (by decide) hs,goes_eq (cp_ok (by decide) (by decide))]
 cases cls c with
 |asg h=>
  have hl:lev c=1:=by unfold lev;rw[(asg_c h).1];rfl
  have:isInc c=false:=by rw[Bool.eq_false_iff];intro h2;have:=inc_vals h2;have:=asg_vals h;omega
  rw[hl,this];rfl
 |inc h=>rw[h];rcases inc_vals h with rfl|rfl<;>cases i<;>cases g<;>cases tg<;>rfl
 |quest h=>subst h;rfl
 |inn h=>subst h;rfl
 |beg h=>
  have hl:lev c=8:=by unfold lev;rw[(beg_c h).1,(beg_c h).2.1];rfl
  have:isInc c=false:=by rw[Bool.eq_false_iff];intro h2;have:=inc_vals h2;have:=beg_vals h;omega
  rw[hl,this];rfl
 |op h=>
  have hl:lev c=opLevel c:=by unfold lev;rw[(op_c h).1,(op_c h).2.1];rfl
  have h3:isInc c=false:=by rw[Bool.eq_false_iff];intro h2;have:=inc_vals h2;have:=op_vals h;omega
  have h2:(opLevel c==13)=false:=by rw[beq_eq_false_iff_ne];rcases op_vals h with rfl|rfl|rfl|rfl|rfl|rfl|rfl|rfl|rfl|rfl|rfl|rfl|rfl|rfl|rfl|rfl|rfl<;>decide
  rw[hl,h2,h3];rfl
 |none h ho=>
  have hl:lev c=0:=by unfold lev;rw[h];rfl
  have:isInc c=false:=by rw[Bool.eq_false_iff];intro h2;rw[(inc_c h2).1]at h;exact absurd h (by decide)
  rw[hl,this];rfl
theorem goes_12{c lv:Int}{tg:Bool}(hlv:13≤lv)(hs:goes c lv tg (cp (12+1) i g)=false):goes c lv tg (cp 12 i g)=(c==60):=by
 rw[at_level (by decide) (by decide) hs,goes_eq (cp_ok (by decide) (by decide))]
 by_cases h60:c=60
 ·subst h60
  have:decide (k0 60≤lv)=true:=by rw[decide_eq_true_eq];exact hlv
  have e:¬(ctK 60=15∨ctK 60=10):=by decide
  rw[if_neg e,this]
  cases i<;>cases g<;>rfl
 ·have:(lev c==12)=false:=by
   rw[beq_eq_false_iff_ne]
   intro h
   cases cls c with
   |asg h2=>unfold lev at h;rw[(asg_c h2).1]at h;simp[levelOf]at h
   |inc h2=>rcases inc_vals h2 with rfl|rfl<;>exact absurd h (by decide)
   |quest h2=>subst h2;exact absurd h (by decide)
   |inn h2=>subst h2;exact absurd h (by decide)
   |beg h2=>unfold lev at h;rw[(beg_c h2).1,(beg_c h2).2.1]at h;exact absurd h (by decide)
   |op h2=>
    unfold lev at h
    rw[(op_c h2).1,(op_c h2).2.1]at h
    rcases op_vals h2 with rfl|rfl|rfl|rfl|rfl|rfl|rfl|rfl|rfl|rfl|rfl|rfl|rfl|rfl|rfl|rfl|rfl<;>first|exact h60 rfl|exact absurd h (by decide)
   |none h2 ho=>unfold lev at h;rw[h2]at h;simp[levelOf]at h
  have o:(c==60)=false:=by rw[beq_eq_false_iff_ne];exact h60
  rw[this,o];rfl
theorem goes_2{c lv:Int}{tg:Bool}(hlv:3≤lv)(hs:goes c lv tg (cp (2+1) i g)=false):goes c lv tg (cp 2 i g)=(c==65):=by
 rw[at_level (by decide) (by decide) hs,goes_eq (cp_ok (by decide) (by decide))]
 by_cases h60:c=65
 ·subst h60
  have:decide (k0 65≤lv)=true:=by rw[decide_eq_true_eq];exact hlv
  have e:¬(ctK 65=15∨ctK 65=10):=by decide
  rw[if_neg e,this]
  cases i<;>cases g<;>rfl
 ·have:(lev c==2)=false:=by
   rw[beq_eq_false_iff_ne]
   intro h
   cases cls c with
   |asg h2=>unfold lev at h;rw[(asg_c h2).1]at h;simp[levelOf]at h
   |inc h2=>rcases inc_vals h2 with rfl|rfl<;>exact absurd h (by decide)
   |quest h2=>exact h60 h2
   |inn h2=>subst h2;exact absurd h (by decide)
   |beg h2=>unfold lev at h;rw[(beg_c h2).1,(beg_c h2).2.1]at h;exact absurd h (by decide)
   |op h2=>
    unfold lev at h
    rw[(op_c h2).1,(op_c h2).2.1]at h
    rcases op_vals h2 with rfl|rfl|rfl|rfl|rfl|rfl|rfl|rfl|rfl|rfl|rfl|rfl|rfl|rfl|rfl|rfl|rfl<;>exact absurd h (by decide)
   |none h2 ho=>unfold lev at h;rw[h2]at h;simp[levelOf]at h
  have o:(c==65)=false:=by rw[beq_eq_false_iff_ne];exact h60
  rw[this,o];rfl
theorem goes_1{c lv:Int}{tg:Bool}(hs:goes c lv tg (cp (1+1) i g)=false):goes c lv tg (cp 1 i g)=(isAsg c&&tg):=by
 rw[at_level (by decide) (by decide) hs,goes_eq (cp_ok (by decide) (by decide))]
 by_cases h60:isAsg c=true
 ·obtain⟨e1,e2,e3⟩:=asg_c h60
  have hv:=asg_vals h60
  have hl:lev c=1:=by unfold lev;rw[e1];rfl
  have hf:fb c (cp 1 i g).i (cp 1 i g).g=false:=by
   have A:(c==24)=false:=by rw[beq_eq_false_iff_ne];omega
   have y:(c==62)=false:=by rw[beq_eq_false_iff_ne];omega
   unfold fb;rw[A,y];simp
  rw[hl,hf,h60,if_pos (.inl e1)]
  simp[cp]
 ·have o:isAsg c=false:=by simpa using h60
  have:(lev c==1)=false:=by
   rw[beq_eq_false_iff_ne]
   intro h
   cases cls c with
   |asg h2=>exact h60 h2
   |inc h2=>rcases inc_vals h2 with rfl|rfl<;>exact absurd h (by decide)
   |quest h2=>subst h2;exact absurd h (by decide)
   |inn h2=>subst h2;exact absurd h (by decide)
   |beg h2=>unfold lev at h;rw[(beg_c h2).1,(beg_c h2).2.1]at h;exact absurd h (by decide)
   |op h2=>
    unfold lev at h
    rw[(op_c h2).1,(op_c h2).2.1]at h
    rcases op_vals h2 with rfl|rfl|rfl|rfl|rfl|rfl|rfl|rfl|rfl|rfl|rfl|rfl|rfl|rfl|rfl|rfl|rfl<;>exact absurd h (by decide)
   |none h2 ho=>unfold lev at h;rw[h2]at h;simp[levelOf]at h
  rw[this,o];rfl
theorem goes_5{c lv:Int}{tg:Bool}(hlv:5≤lv)(hs:goes c lv tg (cp (5+1) i g)=false):goes c lv tg (cp 5 i g)=(!i&&c==24):=by
 rw[at_level (by decide) (by decide) hs,goes_eq (cp_ok (by decide) (by decide))]
 by_cases h60:c=24
 ·subst h60
  have:decide (k0 24≤lv)=true:=by rw[decide_eq_true_eq];exact hlv
  have e:¬(ctK 24=15∨ctK 24=10):=by decide
  rw[if_neg e,this]
  cases i<;>cases g<;>rfl
 ·have:(lev c==5)=false:=by
   rw[beq_eq_false_iff_ne]
   intro h
   cases cls c with
   |asg h2=>unfold lev at h;rw[(asg_c h2).1]at h;simp[levelOf]at h
   |inc h2=>rcases inc_vals h2 with rfl|rfl<;>exact absurd h (by decide)
   |quest h2=>subst h2;exact absurd h (by decide)
   |inn h2=>exact h60 h2
   |beg h2=>unfold lev at h;rw[(beg_c h2).1,(beg_c h2).2.1]at h;exact absurd h (by decide)
   |op h2=>
    unfold lev at h
    rw[(op_c h2).1,(op_c h2).2.1]at h
    rcases op_vals h2 with rfl|rfl|rfl|rfl|rfl|rfl|rfl|rfl|rfl|rfl|rfl|rfl|rfl|rfl|rfl|rfl|rfl<;>exact absurd h (by decide)
   |none h2 ho=>unfold lev at h;rw[h2]at h;simp[levelOf]at h
  have o:(c==24)=false:=by rw[beq_eq_false_iff_ne];exact h60
  rw[this,o];simp
theorem ex_13(hM:∀t∈l,t.s.size≤M)(hb:l.length≤100000)(hj:j≤l.length):ex l (f+1) (cp 13 i g) j=if isInc (kd l j)=true then preR (ex l f) l i g j else(match ex l (f+1) (cp 14 i g) j with| .bad m=> .bad m| .ok lv tg t m=>if(isInc (kd l m)&&tg)=true then fin 10 (kd l m) ⟨#[]⟩ [t] (m+1)else .ok lv tg t m):=by
 by_cases h:isInc (kd l j)=true
 ·rw[if_pos h,ex_succ]
  have hv:=inc_vals h
  have hfi:first (ex l f) l (cp 13 i g) j=preR (ex l f) l i g j:=by
   unfold first
   rw[if_neg (by omega)]
   have hf:ft (bgK (kd l j)) (bgO (kd l j)) (cp 13 i g)=true:=by
    generalize kd l j=c at*
    rw[ft_bg (by decide) (by decide)]
    rcases hv with rfl|rfl<;>rfl
   rw[if_pos hf]
   exact bg_pre (cp_ok (L:=13) (i:=i) (g:=g) (by decide) (by decide)) h
  rw[hfi]
  cases hr:preR (ex l f) l i g j with
  |bad m=>rfl
  |ok lv tg t m=>
   unfold preR at hr
   split at hr
   ·unfold over1 at hr
    cases hr2:ex l f (cp 14 i g) (j+1)with
    |bad m=>rw[hr2]at hr;simp at hr
    |ok a b c d=>
     rw[hr2]at hr
     obtain⟨e1,e2,-,-⟩:=fin_lv hr
     have e3:lv=13:=by rw[e1];simp[levelOf]
     have e4:tg=false:=by rw[e2];rfl
     subst e3;subst e4
     exact go_stop (no_same (.inr (.inr (.inr (.inr (.inr rfl)))))) (Nat.succ_pos _)
   ·simp at hr
 ·rw[if_neg h]
  rw[ex_once hM hb hj (.inr (.inr (.inr (.inr (.inr rfl))))) (same_b (by decide) (by decide) (by omega) (by omega) (fun _ h2=>h (by rcases h2 with h2|h2<;>rw[h2]<;>rfl)) (by omega))]
  show(match ex l (f+1) (cp 14 i g) j with| .bad m=>R.bad m| .ok lv tg t m=>_)=_
  cases hr:ex l (f+1) (cp 14 i g) j with
  |bad m=>rfl
  |ok lv tg t m=>
   simp only
   rw[goes_13 (ex_stuck hr)]
   by_cases h3:(isInc (kd l m)&&tg)=true
   ·rw[if_pos h3,if_pos h3]
    rw[Bool.and_eq_true]at h3
    generalize kd l m=c at*
    rcases inc_vals h3.1 with rfl|rfl<;>rfl
   ·rw[if_neg h3,if_neg h3]
theorem ex_12(hM:∀t∈l,t.s.size≤M)(hb:l.length≤100000)(hj:j≤l.length):ex l (f+1) (cp 12 i g) j=(match ex l (f+1) (cp 13 i g) j with| .bad m=> .bad m| .ok lv tg t m=>if kd l m=60 then over2 12 60 t (ex l f (cp 11 i g) (m+1))else .ok lv tg t m):=by
 rw[ex_once hM hb hj (.inr (.inr (.inr (.inr (.inl rfl))))) (same_b (by decide) (by decide) (by omega) (by omega) (by omega) (by omega))]
 show(match ex l (f+1) (cp 13 i g) j with| .bad m=>R.bad m| .ok lv tg t m=>_)=_
 cases hr:ex l (f+1) (cp 13 i g) j with
 |bad m=>rfl
 |ok lv tg t m=>
  simp only
  rw[goes_12 (ex_lv (cp_ok (L:=13) (i:=i) (g:=g) (by decide) (by decide)) rfl hr) (ex_stuck hr)]
  by_cases h3:kd l m=60
  ·rw[if_pos h3,h3,if_pos (show((60:Int)==60)=true by rfl)]
   show rd2 (ex l f) 12 60 (cp 12 i g) t (m+1)=_
   rw[rd2_over,kq_bin (R0:=0) (by decide) (by decide) (by decide)]
   rfl
  ·rw[if_neg h3,if_neg (by simpa using h3)]
theorem ex_11(hM:∀t∈l,t.s.size≤M)(hb:l.length≤100000)(hj:j≤l.length):ex l (f+1) (cp 11 i g) j=if kd l j=55∨kd l j=56∨kd l j=61 then over1 11 (kd l j) (ex l f (cp 11 i g) (j+1))else ex l (f+1) (cp 12 i g) j:=by
 by_cases h:kd l j=55∨kd l j=56∨kd l j=61
 ·rw[if_pos h,ex_succ]
  have hfi:first (ex l f) l (cp 11 i g) j=over1 11 (kd l j) (ex l f (cp 11 i g) (j+1)):=by
   unfold first
   rw[if_neg (by omega)]
   have hf:ft (bgK (kd l j)) (bgO (kd l j)) (cp 11 i g)=true:=by
    generalize kd l j=c at*
    rw[ft_bg (by decide) (by decide)]
    rcases h with rfl|rfl|rfl<;>rfl
   rw[if_pos hf]
   have:bgR (ex l f) l (kd l j) (cp 11 i g) j=pfx (ex l f) 11 (kd l j) (cp 11 i g) j:=by
    generalize kd l j=c at*
    rcases h with rfl|rfl|rfl<;>rfl
   rw[this,pfx_over]
   have e:kq 11 (kd l j) 1 0 (cp 11 i g)=cp 11 i g:=kq_unary (cp_ok (L:=11) (i:=i) (g:=g) (by decide) (by decide))
   rw[e]
  rw[hfi]
  cases hr:over1 11 (kd l j) (ex l f (cp 11 i g) (j+1))with
  |bad m=>rfl
  |ok lv tg t m=>
   unfold over1 at hr
   cases hr2:ex l f (cp 11 i g) (j+1)with
   |bad m=>rw[hr2]at hr;simp at hr
   |ok a b c d=>
    rw[hr2]at hr
    obtain⟨e1,e2,-,-⟩:=fin_lv hr
    have e3:lv=11:=by rw[e1];simp[levelOf]
    have e4:tg=false:=by rw[e2];rfl
    subst e3;subst e4
    simp only
    refine go_stop ?_ (Nat.succ_pos _)
    have hp:=cp_ok (L:=11) (i:=i) (g:=g) (by decide) (by decide)
    rw[goes_eq hp]
    rw[Bool.eq_false_iff]
    intro h2
    simp only[Bool.and_eq_true,decide_eq_true_eq]at h2
    obtain⟨h3,h4,h5,h6⟩:=h2
    have h5:11≤lev (kd l m):=by first|exact h5|exact of_decide_eq_true h5
    split at h6
    ·cases h6
    ·next hk=>
     simp only[decide_eq_true_eq]at h6
     rcases lev_vals (kd l m)with e|⟨e,e2⟩|⟨e,e2⟩|⟨e,e2⟩|⟨e,e2⟩|⟨e,e2⟩|⟨e,e2⟩|⟨e,e2⟩|⟨e,e2⟩|⟨e,e2⟩|⟨e,e2⟩|⟨e,e2⟩|⟨e,e2⟩<;>first|exact absurd (Or.inl e2) hk|exact absurd (Or.inr e2) hk|omega
 ·rw[if_neg h,ex_next hM hb hj (by decide) (by decide) (same_b (by decide) (by decide) (by omega) (fun _=>h) (by omega) (by omega))]
  show(match ex l (f+1) (cp 12 i g) j with| .bad m=>R.bad m| .ok lv tg t m=>_)=_
  cases hr:ex l (f+1) (cp 12 i g) j with
  |bad m=>rfl
  |ok lv tg t m=>
   simp only
   refine go_stop ?_ (Nat.succ_pos _)
   rw[at_level (by decide) (by decide) (ex_stuck hr)]
   have:(lev (kd l m)==11)=false:=by
    rw[beq_eq_false_iff_ne]
    rcases lev_vals (kd l m)with e|⟨e,e2⟩|⟨e,e2⟩|⟨e,e2⟩|⟨e,e2⟩|⟨e,e2⟩|⟨e,e2⟩|⟨e,e2⟩|⟨e,e2⟩|⟨e,e2⟩|⟨e,e2⟩|⟨e,e2⟩|⟨e,e2⟩<;>omega
   rw[this];rfl
theorem ex_2(hM:∀t∈l,t.s.size≤M)(hb:l.length≤100000)(hj:j≤l.length):ex l (f+1) (cp 2 i g) j=(match ex l (f+1) (cp 3 i g) j with| .bad m=> .bad m| .ok lv tg t m=>if kd l m=65 then cond (ex l f) l (cp 2 i g) t m else .ok lv tg t m):=by
 rw[ex_once hM hb hj (.inr (.inl rfl)) (same_b (by decide) (by decide) (by omega) (by omega) (by omega) (by omega))]
 show(match ex l (f+1) (cp 3 i g) j with| .bad m=>R.bad m| .ok lv tg t m=>_)=_
 cases hr:ex l (f+1) (cp 3 i g) j with
 |bad m=>rfl
 |ok lv tg t m=>
  simp only
  rw[goes_2 (ex_lv (cp_ok (L:=3) (i:=i) (g:=g) (by decide) (by decide)) rfl hr) (ex_stuck hr)]
  by_cases h3:kd l m=65
  ·rw[if_pos h3,h3,if_pos (show((65:Int)==65)=true by rfl)];rfl
  ·rw[if_neg h3,if_neg (by simpa using h3)]
theorem ex_1(hM:∀t∈l,t.s.size≤M)(hb:l.length≤100000)(hj:j≤l.length):ex l (f+1) (cp 1 i g) j=(match ex l (f+1) (cp 2 i g) j with| .bad m=> .bad m| .ok lv tg t m=>if(isAsg (kd l m)&&tg)=true then over2 15 (kd l m) t (ex l f (cp 1 i g) (m+1))else .ok lv tg t m):=by
 rw[ex_once hM hb hj (.inl rfl) (same_b (by decide) (by decide) (by omega) (by omega) (by omega) (by omega))]
 show(match ex l (f+1) (cp 2 i g) j with| .bad m=>R.bad m| .ok lv tg t m=>_)=_
 cases hr:ex l (f+1) (cp 2 i g) j with
 |bad m=>rfl
 |ok lv tg t m=>
  simp only
  rw[goes_1 (ex_stuck hr)]
  by_cases h3:(isAsg (kd l m)&&tg)=true
  ·rw[if_pos h3,if_pos h3]
   rw[Bool.and_eq_true]at h3
   have hv:=asg_vals h3.1
   unfold step
   rw[if_pos h3.1,rd2_over,kq_asg (by decide)]
   have:behind l (kd l m) m=m+1:=by unfold behind;rw[if_neg (by omega)]
   rw[this]
  ·rw[if_neg h3,if_neg h3]
theorem step_op{E:Ps→Nat→R}{c:Int}{t:List Nd}{m:Nat}(hL:1≤L∧L≤15)(h8:¬L=8)(ho:isOp L g c=true):step E l c (cp L i g) t m=over2 12 c t (E (cp (rgt L) i g) (behind l c m)):=by
 unfold isOp at ho
 rw[if_neg h8]at ho
 simp only[Bool.and_eq_true,beq_iff_eq,Bool.not_eq_true',beq_eq_false_iff_ne]at ho
 obtain⟨⟨⟨h0,h⟩,hop⟩,-⟩:=ho
 have hne:opLevel c≠0:=by omega
 have hv:=op_vals hne
 have:step E l c (cp L i g) t m=rd2 E 12 c (cp L i g) t (behind l c m):=by
  rcases hv with rfl|rfl|rfl|rfl|rfl|rfl|rfl|rfl|rfl|rfl|rfl|rfl|rfl|rfl|rfl|rfl|rfl<;>first|exact absurd rfl h|rfl
 rw[this,rd2_over,kq_bin (R0:=0) hL hne h,hop]
theorem ex_nosign(hm:begins (kd l j)=true):ex l f ⟨9,false,i,g,true⟩ j=ex l f (cp 9 i g) j:=by
 cases f with
 |zero=>rfl
 |succ f=>
  have hp:posOk (⟨9,false,i,g,true⟩:Ps).l (⟨9,false,i,g,true⟩:Ps).d=true:=by rfl
  rw[ex_succ,ex_succ]
  have hf:first (ex l f) l ⟨9,false,i,g,true⟩ j=first (ex l f) l (cp 9 i g) j:=by
   refine first_same hp (cp_ok (by decide) (by decide)) rfl rfl (fun h2=> ?_) (fun h2=> ?_)
   ·cases i<;>cases g<;>rfl
   ·generalize kd l j=c at*
    rcases beg_vals hm with rfl|rfl|rfl|rfl|rfl|rfl|rfl<;>first|exact absurd rfl h2|(cases i<;>cases g<;>rfl)
  rw[hf]
  cases first (ex l f) l (cp 9 i g) j with
  |bad m=>rfl
  |ok lv tg t m=>exact go_same hp (cp_ok (by decide) (by decide)) rfl rfl rfl _ _ _ _ _
theorem step_cat{t:List Nd}{m:Nat}(ho:begins (kd l m)=true):step (ex l f) l (kd l m) (cp 8 i g) t m=over2 12 99 t (ex l f (cp 9 i g) m):=by
 have:step (ex l f) l (kd l m) (cp 8 i g) t m=rd2 (ex l f) 12 99 (cp 8 i g) t m:=by
  have h:=beg_vals ho
  generalize kd l m=c at*
  rcases h with rfl|rfl|rfl|rfl|rfl|rfl|rfl<;>rfl
 rw[this,rd2_over,kq_cat (by decide),ex_nosign ho]
end
end Go.Proofs.YtebjmdpkobhcbaaGreatDoor.pe

namespace Go.Proofs.YtebjmdpkobhcbaaGreatDoor.pe
open Go.RowKit
open nd (Nd makeT)
open tk (Tk)
open ps (Ps fits kidI top posOk forb)
open lv (levelOf opLevel has lev_range)
open rt (isLval)
open operand (begins)
open pb (opB clB opN clN)
set_option linter.unusedVariables false
set_option linter.unusedSimpArgs false
set_option maxRecDepth 20000
def comF:List Tk→Int→Bool
 |[],_=>false
 |t::r,d=>if d+opN t.k-clN t.k=0 then false else if d+opN t.k-clN t.k=1∧t.k=36 then true else comF r (d+opN t.k-clN t.k)
def com(l:List Tk)(d:Int)(i:Nat):Bool:=comF (l.drop i) d
theorem com_end{l:List Tk}{d:Int}{i:Nat}(h:l.length≤i):com l d i=false:=by unfold com;rw[List.drop_eq_nil_of_le h];rfl
theorem com_on{l:List Tk}{d:Int}{i:Nat}(h:i<l.length):com l d i=if d+opN (kd l i)-clN (kd l i)=0 then false else if d+opN (kd l i)-clN (kd l i)=1∧kd l i=36 then true else com l (d+opN (kd l i)-clN (kd l i)) (i+1):=by
 rw[kd_at h]
 conv=>lhs;unfold com;rw[List.drop_eq_getElem_cons h];unfold comF
 rfl
def Pass(l:List Tk)(i j:Nat):Prop:=∀d:Int,1≤d→com l d i=com l d j
def Pas2(l:List Tk)(i j:Nat):Prop:=∀d:Int,2≤d→com l d i=com l d j
section
variable {l:List Tk} {i j k:Nat}
theorem Pass.refl(l:List Tk)(i:Nat):Pass l i i:=fun _ _=>rfl
theorem Pass.trans(h:Pass l i j)(h2:Pass l j k):Pass l i k:=fun d hd=>(h d hd).trans (h2 d hd)
theorem Pass.two(h:Pass l i j):Pas2 l i j:=fun d hd=>h d (by omega)
theorem Pas2.trans(h:Pas2 l i j)(h2:Pas2 l j k):Pas2 l i k:=fun d hd=>(h d hd).trans (h2 d hd)
theorem pass_tok(h:¬kd l i=0)(h1:opB (kd l i)=false)(h2:clB (kd l i)=false)(h3:¬kd l i=36):Pass l i (i+1):=by
 intro d hd
 rw[com_on (kd_lt h)]
 have e1:opN (kd l i)=0:=by unfold opN;rw[h1];rfl
 have e2:clN (kd l i)=0:=by unfold clN;rw[h2];rfl
 rw[e1,e2,if_neg (by omega),if_neg (fun h=>h3 h.2)]
 congr 1
 omega
theorem pas2_com(h:kd l i=36):Pas2 l i (i+1):=by
 intro d hd
 rw[com_on (kd_lt (by omega)),h]
 have e1:opN 36=0:=rfl
 have e2:clN 36=0:=rfl
 rw[e1,e2,if_neg (by omega),if_neg (by omega)]
 congr 1
 omega
theorem pass_br(h:opB (kd l i)=true)(h1:Pas2 l (i+1) j)(h2:clB (kd l j)=true):Pass l i (j+1):=by
 intro d hd
 have hi:¬kd l i=0:=by intro e;rw[e]at h;cases h
 have hj:¬kd l j=0:=by intro e;rw[e]at h2;cases h2
 have e1:opN (kd l i)=1:=by unfold opN;rw[h];rfl
 have e2:clN (kd l i)=0:=by unfold clN;rw[pb.both h];rfl
 have e3:clN (kd l j)=1:=by unfold clN;rw[h2];rfl
 have e4:opN (kd l j)=0:=by
  unfold opN
  cases ho:opB (kd l j)with
  |false=>rfl
  |true=>rw[pb.both ho]at h2;cases h2
 have o:¬kd l i=36:=by intro e;rw[e]at h;cases h
 have y:¬kd l j=36:=by intro e;rw[e]at h2;cases h2
 rw[com_on (kd_lt hi),e1,e2,if_neg (by omega),if_neg (fun h=>o h.2),h1 _ (by omega),com_on (kd_lt hj),e3,e4,if_neg (by omega),if_neg (fun h=>y h.2)]
 congr 1
 omega
theorem pass_skp:∀g i,Pass l i (skp l g i):=by
 intro g
 induction g with
 |zero=>intro i;exact Pass.refl l i
 |succ g ih=>
  intro i
  unfold skp
  split
  ·next h=>
   refine Pass.trans (pass_tok ?_ ?_ ?_ ?_) (ih (i+1))
   ·omega
   ·rcases h with h|h<;>rw[h]<;>rfl
   ·rcases h with h|h<;>rw[h]<;>rfl
   ·omega
  ·exact Pass.refl l i
theorem pass_sk(i:Nat):Pass l i (sk l i):=pass_skp _ _
def PE(E:Ps→Nat→R)(l:List Tk):Prop:=∀p i lv tg t j,E p i= .ok lv tg t j→Pass l i j
variable {E:Ps→Nat→R} {p:Ps} {lv:Int} {tg:Bool} {t t':List Nd}
theorem els_pass(hE:PE E l)(m:Nat):∀g ps i ps' j,els E l m g ps i= .ok ps' j→Pas2 l i j:=by
 intro g
 induction g with
 |zero=>intro ps i ps' j h;simp[els]at h
 |succ g ih=>
  intro ps i ps' j h
  unfold els at h
  cases hr:E top i with
  |bad j=>rw[hr]at h;simp at h
  |ok a b c d=>
   rw[hr]at h
   have h1:=hE _ _ _ _ _ _ hr
   simp only at h
   split at h
   ·injection h with _ h2;subst h2;exact h1.two
   ·next hc=>
    have o:kd l d=36:=by
     rcases Classical.em (kd l d=36)with h3|h3
     ·exact h3
     ·exact absurd (.inr h3) hc
    exact h1.two.trans ((pas2_com o).trans ((pass_sk (d+1)).two.trans (ih _ _ _ _ h)))
theorem tok_pass{c:Int}(h:kd l i=c)(hc:c=3∨c=4∨c=5∨c=6∨c=7∨c=8∨c=24∨c=51∨c=52∨c=55∨c=56∨c=61∨c=65∨c=66∨c=68):Pass l i (i+1):=by
 refine pass_tok ?_ ?_ ?_ ?_<;>rw[h]
 ·omega
 ·rcases hc with rfl|rfl|rfl|rfl|rfl|rfl|rfl|rfl|rfl|rfl|rfl|rfl|rfl|rfl|rfl<;>rfl
 ·rcases hc with rfl|rfl|rfl|rfl|rfl|rfl|rfl|rfl|rfl|rfl|rfl|rfl|rfl|rfl|rfl<;>rfl
 ·omega
theorem listed_pass(hE:PE E l){k:Int}(hi:Pass l i (i+1)){a b:Int}(hab:(a=32∧b=33)∨(a=34∧b=35))(h:listed E l k a b i= .ok lv tg t j):Pass l i j:=by
 unfold listed at h
 split at h
 ·next ha=>
  have ho:opB (kd l (i+1))=true:=by rw[ha];rcases hab with ⟨rfl,-⟩|⟨rfl,-⟩<;>rfl
  split at h
  ·next hb=>
   obtain⟨-,-,-,rfl⟩:=fin_lv h
   exact hi.trans (pass_br ho (Pass.refl l (i+2)).two (by rw[hb.2];rfl))
  ·cases hr:els E l 6 6 [] (i+2)with
   |bad j=>rw[hr]at h;simp at h
   |ok ps j2=>
    rw[hr]at h
    simp only at h
    split at h
    ·next hb=>
     obtain⟨-,-,-,rfl⟩:=fin_lv h
     exact hi.trans (pass_br ho (els_pass hE _ _ _ _ _ _ hr) (by rw[hb];rcases hab with ⟨-,rfl⟩|⟨-,rfl⟩<;>rfl))
    ·simp at h
 ·simp at h
theorem inn_pass{ps:List (List Nd)}(h:inn l ps i= .ok lv tg t j):Pass l i j:=by
 unfold inn at h
 split at h
 ·next h1=>
  split at h
  ·next h2=>
   obtain⟨-,-,-,rfl⟩:=fin_lv h
   exact(tok_pass h1 (by decide)).trans (tok_pass h2 (by decide))
  ·simp at h
 ·simp at h
theorem group_pass(hE:PE E l)(hi:kd l i=32)(h:group E l p i= .ok lv tg t j):Pass l i j:=by
 unfold group at h
 cases hr:els E l (many p) (many p) [] (i+1)with
 |bad j=>rw[hr]at h;simp at h
 |ok ps j2=>
  rw[hr]at h
  simp only at h
  split at h
  ·next hb=>
   have h1:Pass l i (j2+1):=pass_br (by rw[hi];rfl) (els_pass hE _ _ _ _ _ _ hr) (by rw[hb];rfl)
   split at h
   ·injection h with _ _ _ h2;subst h2;exact h1
   ·exact h1.trans (inn_pass h)
  ·simp at h
theorem pfx_pass(hE:PE E l){k op:Int}(hi:Pass l i (i+1))(h:pfx E k op p i= .ok lv tg t j):Pass l i j:=by
 unfold pfx at h
 cases hr:E (kq k op 1 0 p) (i+1)with
 |bad j=>rw[hr]at h;simp at h
 |ok a b c d=>rw[hr]at h;obtain⟨-,-,-,rfl⟩:=fin_lv h;exact hi.trans (hE _ _ _ _ _ _ hr)
theorem word_pass{k:Int}(hi:Pass l i (i+1))(h:word l k i= .ok lv tg t j):Pass l i j:=by
 obtain⟨-,-,-,rfl⟩:=fin_lv h;exact hi
theorem bgR_pass(hE:PE E l)(h:bgR E l (kd l i) p i= .ok lv tg t j):Pass l i j:=by
 obtain⟨c,hc⟩:∃c,kd l i=c:=⟨_,rfl⟩
 rw[hc]at h
 unfold bgR at h
 by_cases c3:c=3
 ·rw[if_pos c3]at h;exact word_pass (tok_pass hc (by omega)) h
 rw[if_neg c3]at h
 by_cases c4:c=4
 ·rw[if_pos c4]at h;exact word_pass (tok_pass hc (by omega)) h
 rw[if_neg c4]at h
 by_cases c5:c=5
 ·rw[if_pos c5]at h;exact word_pass (tok_pass hc (by omega)) h
 rw[if_neg c5]at h
 by_cases c6:c=6
 ·rw[if_pos c6]at h
  split at h
  ·exact listed_pass hE (tok_pass hc (by omega)) (.inr ⟨rfl,rfl⟩) h
  ·exact word_pass (tok_pass hc (by omega)) h
 rw[if_neg c6]at h
 by_cases c7:c=7
 ·rw[if_pos c7]at h;exact listed_pass hE (tok_pass hc (by omega)) (.inl ⟨rfl,rfl⟩) h
 rw[if_neg c7]at h
 by_cases c8:c=8
 ·rw[if_pos c8]at h
  split at h
  ·exact word_pass (tok_pass hc (by omega)) h
  ·exact listed_pass hE (tok_pass hc (by omega)) (.inl ⟨rfl,rfl⟩) h
 rw[if_neg c8]at h
 by_cases c68:c=68
 ·rw[if_pos c68]at h;exact pfx_pass hE (tok_pass hc (by omega)) h
 rw[if_neg c68]at h
 by_cases c51:c=51∨c=52
 ·rw[if_pos c51]at h
  split at h
  ·exact pfx_pass hE (tok_pass hc (by omega)) h
  ·simp at h
 rw[if_neg c51]at h
 split at h
 ·next h55=>exact pfx_pass hE (tok_pass hc (by omega)) h
 ·simp at h
theorem first_pass(hE:PE E l)(h:first E l p i= .ok lv tg t j):Pass l i j:=by
 unfold first at h
 split at h
 ·next hi=>exact group_pass hE hi h
 ·split at h
  ·exact bgR_pass hE h
  ·simp at h
theorem op_pass{c:Int}(h:kd l i=c)(hc:opLevel c≠0∨isAsg c=true):Pass l i (behind l c i):=by
 have h1:Pass l i (i+1):=by
  refine pass_tok ?_ ?_ ?_ ?_<;>rw[h]
  ·rcases hc with hc|hc
   ·have:=op_vals hc;omega
   ·have:=asg_vals hc;omega
  ·rcases hc with hc|hc
   ·rcases op_vals hc with rfl|rfl|rfl|rfl|rfl|rfl|rfl|rfl|rfl|rfl|rfl|rfl|rfl|rfl|rfl|rfl|rfl<;>rfl
   ·have:=asg_vals hc;unfold opB;simp;omega
  ·rcases hc with hc|hc
   ·rcases op_vals hc with rfl|rfl|rfl|rfl|rfl|rfl|rfl|rfl|rfl|rfl|rfl|rfl|rfl|rfl|rfl|rfl|rfl<;>rfl
   ·have:=asg_vals hc;unfold clB;simp;omega
  ·rcases hc with hc|hc
   ·have:=op_vals hc;omega
   ·have:=asg_vals hc;omega
 unfold behind
 split
 ·exact h1.trans (pass_sk (i+1))
 ·exact h1
theorem rd2_pass(hE:PE E l){k op:Int}(h:rd2 E k op p t i= .ok lv tg t' j):Pass l i j:=by
 unfold rd2 at h
 cases hr:E (kq k op 2 1 p) i with
 |bad j=>rw[hr]at h;simp at h
 |ok a b c d=>rw[hr]at h;obtain⟨-,-,-,rfl⟩:=fin_lv h;exact hE _ _ _ _ _ _ hr
theorem cond_pass(hE:PE E l)(hi:kd l i=65)(h:cond E l p t i= .ok lv tg t' j):Pass l i j:=by
 unfold cond at h
 cases hr:E (kq 14 0 3 1 p) (i+1)with
 |bad j=>rw[hr]at h;simp at h
 |ok a b c d=>
  rw[hr]at h
  simp only at h
  split at h
  ·next hd=>
   cases hr2:E (kq 14 0 3 2 p) (d+1)with
   |bad j=>rw[hr2]at h;simp at h
   |ok a' b' c' d'=>
    rw[hr2]at h
    obtain⟨-,-,-,rfl⟩:=fin_lv h
    exact(tok_pass hi (by decide)).trans ((hE _ _ _ _ _ _ hr).trans ((tok_pass hd (by decide)).trans (hE _ _ _ _ _ _ hr2)))
  ·simp at h
theorem step_pass(hE:PE E l)(hc:¬ctK (kd l i)=0)(h:step E l (kd l i) p t i= .ok lv tg t' j):Pass l i j:=by
 obtain⟨c,hcc⟩:∃c,kd l i=c:=⟨_,rfl⟩
 rw[hcc]at h hc
 unfold step at h
 by_cases h1:isAsg c=true
 ·rw[if_pos h1]at h;exact(op_pass hcc (.inr h1)).trans (rd2_pass hE h)
 rw[if_neg h1]at h
 by_cases h2:isInc c=true
 ·rw[if_pos h2]at h
  obtain⟨-,-,-,rfl⟩:=fin_lv h
  exact tok_pass hcc (by have:=inc_vals h2;omega)
 rw[if_neg h2]at h
 by_cases h3:c=65
 ·rw[if_pos h3]at h;exact cond_pass hE (by omega) h
 rw[if_neg h3]at h
 by_cases h4:c=24
 ·rw[if_pos h4]at h;exact inn_pass h
 rw[if_neg h4]at h
 by_cases h5:begins c=true
 ·rw[if_pos h5]at h;exact rd2_pass hE h
 rw[if_neg h5]at h
 have h6:opLevel c≠0:=by
  intro h6
  apply hc
  simp only[ctK,if_neg h1,if_neg h2,if_neg h3,if_neg h4,if_neg h5,h6]
  simp
 exact(op_pass hcc (.inl h6)).trans (rd2_pass hE h)
theorem go_pass(hE:PE E l):∀n lv tg t i lv' tg' t' j,go E l p n lv tg t i= .ok lv' tg' t' j→Pass l i j:=by
 intro n
 induction n with
 |zero=>intro lv tg t i lv' tg' t' j h;simp[go]at h
 |succ n ih=>
  intro lv tg t i lv' tg' t' j h
  unfold go at h
  split at h
  ·next hg=>
   cases hr:step E l (kd l i) p t i with
   |bad j=>rw[hr]at h;simp at h
   |ok a b c d=>rw[hr]at h;exact(step_pass hE (goes_k hg) hr).trans (ih _ _ _ _ _ _ _ _ h)
  ·injection h with _ _ _ h2;subst h2;exact Pass.refl l i
end
theorem ex_pass(l:List Tk):∀f,PE (ex l f) l:=by
 intro f
 induction f with
 |zero=>intro p i lv tg t j h;simp[ex]at h
 |succ f ih=>
  intro p i lv tg t j h
  rw[ex_succ]at h
  cases hr:first (ex l f) l p i with
  |bad j=>rw[hr]at h;simp at h
  |ok a b c d=>rw[hr]at h;exact(first_pass ih hr).trans (go_pass ih _ _ _ _ _ _ _ _ _ h)
def comma(l:List Tk)(j:Nat):Bool:=kd l j==32&&com l 0 j
def multi(E:Ps→Nat→R)(l:List Tk)(j:Nat):R:=match els E l 6 6 [] (j+1)with
 | .bad m=> .bad m
 | .ok ps m=>if kd l m=33 then inn l ps (m+1)else .bad m
section
variable {l:List Tk} {M f j:Nat} {i g:Bool}
theorem com_open(h:kd l j=32):com l 0 j=com l 1 (j+1):=by
 rw[com_on (kd_lt (by omega)),h]
 have e1:opN 32=1:=rfl
 have e2:clN 32=0:=rfl
 rw[e1,e2,if_neg (by omega),if_neg (by omega)]
 rfl
theorem com_shut{d:Nat}(h:kd l d=33):com l 1 d=false:=by
 rw[com_on (kd_lt (by omega)),h]
 have e1:opN 33=0:=rfl
 have e2:clN 33=1:=rfl
 rw[e1,e2,if_pos (by omega)]
theorem com_comma{d:Nat}(h:kd l d=36):com l 1 d=true:=by
 rw[com_on (kd_lt (by omega)),h]
 have e1:opN 36=0:=rfl
 have e2:clN 36=0:=rfl
 rw[e1,e2,if_neg (by omega),if_pos (by omega)]
theorem group_multi(hk:kd l j=32)(hc:com l 0 j=true){p:Ps}(hm:many p=6):group (ex l f) l p j=multi (ex l f) l j:=by
 unfold group multi
 rw[hm]
 cases hr:els (ex l f) l 6 6 [] (j+1)with
 |bad m=>rfl
 |ok ps m=>
  simp only
  by_cases h33:kd l m=33
  ·rw[if_pos h33,if_pos h33]
   rw[if_neg]
   intro h1
   unfold els at hr
   cases hr2:ex l f top (j+1)with
   |bad m=>rw[hr2]at hr;simp at hr
   |ok a b t d=>
    rw[hr2]at hr
    simp only at hr
    have hp:=ex_pass l f _ _ _ _ _ _ hr2
    split at hr
    ·next hd=>
     injection hr with e1 e2
     subst e2
     rw[com_open hk,hp 1 (by omega),com_shut h33]at hc
     cases hc
    ·
     have hlen:∀gg o i0 ps' j',els (ex l f) l 6 gg o i0= .ok ps' j'→o.length+1≤ps'.length:=by
      intro gg
      induction gg with
      |zero=>intro o i0 ps' j' h;simp[els]at h
      |succ gg ih=>
       intro o i0 ps' j' h
       unfold els at h
       cases hq:ex l f top i0 with
       |bad m=>rw[hq]at h;simp at h
       |ok a b c d=>
        rw[hq]at h
        simp only at h
        split at h
        ·injection h with h1 _;subst h1;simp
        ·have:=ih _ _ _ _ h
         simp at this
         omega
     have:=hlen _ _ _ _ _ hr
     simp at this
     omega
  ·rw[if_neg h33,if_neg h33]
theorem group_paren(hk:kd l j=32)(hc:com l 0 j=false){p:Ps}:group (ex l f) l p j=paren (ex l f) l j:=by
 have hm:∃m,many p=m+1:=by unfold many;split;exact⟨5,rfl⟩;exact⟨0,rfl⟩
 obtain⟨m,hm⟩:=hm
 unfold group paren
 rw[hm]
 conv=>lhs;unfold els
 cases hr2:ex l f top (j+1)with
 |bad m=>rfl
 |ok a b t d=>
  simp only
  have hp:=ex_pass l f _ _ _ _ _ _ hr2
  have hd:¬kd l d=36:=by
   intro h
   rw[com_open hk,hp 1 (by omega),com_comma h]at hc
   cases hc
  rw[if_pos (.inr hd)]
  simp
theorem ex_5m(hk:kd l j=32)(hc:com l 0 j=true):ex l (f+1) (cp 5 false g) j=(match multi (ex l f) l j with| .bad m=> .bad m| .ok lv tg t m=>go (ex l f) l (cp 5 false g) (l.length+1) lv tg t m):=by
 rw[ex_succ]
 have:first (ex l f) l (cp 5 false g) j=multi (ex l f) l j:=by
  unfold first
  rw[if_pos hk]
  exact group_multi hk hc (by rw[many_cp (by decide) (by decide)];rfl)
 rw[this]
 cases multi (ex l f) l j<;>rfl
theorem ex_5(hM:∀t∈l,t.s.size≤M)(hb:l.length≤100000)(hj:j≤l.length)(h:¬(i=false∧kd l j=32∧com l 0 j=true)):ex l (f+1) (cp 5 i g) j=(match ex l (f+1) (cp 6 i g) j with| .bad m=> .bad m| .ok lv tg t m=>go (ex l f) l (cp 5 i g) (l.length+1) lv tg t m):=by
 refine ex_up hM hb hj (cp_ok (by decide) (by decide)) (cp_ok (by decide) (by decide)) (show(5:Int)≤6 by decide) rfl rfl ?_
 by_cases hk:kd l j=32
 ·unfold first
  rw[if_pos hk,if_pos hk]
  cases hc:com l 0 j with
  |false=>rw[group_paren hk hc,group_paren hk hc]
  |true=>
   have hi:i=true:=by
    cases i with
    |true=>rfl
    |false=>exact absurd ⟨rfl,hk,hc⟩ h
   subst hi
   rw[group_one (by rw[many_cp (by decide) (by decide)];rfl),group_one (by rw[many_cp (by decide) (by decide)];rfl)]
 ·have hs:sameB 5 (kd l j) i g:=same_b (by decide) (by decide) (fun _=> .inr hk) (by omega) (by omega) (by omega)
  exact first_same (cp_ok (by decide) (by decide)) (cp_ok (by decide) (by decide)) rfl rfl hs.1 hs.2
end
def cms(l:List Tk)(i j:Nat):List Tk:=((l.drop i).take (j-i)).filter (fun t=>t.k==2)
theorem cms_trans{l:List Tk}{i j k:Nat}(h1:i≤j)(h2:j≤k):cms l i j++cms l j k=cms l i k:=by
 unfold cms
 rw[←List.filter_append]
 congr 1
 obtain⟨a,rfl⟩:∃a,j=i+a:=⟨j-i,by omega⟩
 obtain⟨b,rfl⟩:∃b,k=i+a+b:=⟨k-(i+a),by omega⟩
 rw[show i+a-i=a by omega,show i+a+b-(i+a)=b by omega,show i+a+b-i=a+b by omega,List.take_add,List.drop_drop]
theorem take_one{l:List Tk}{i:Nat}(h:i<l.length):List.take (i+1-i) (List.drop i l)=[l[i]]:=by
 rw[show i+1-i=1 by omega,List.drop_eq_getElem_cons h];rfl
theorem cms_one{l:List Tk}{i:Nat}(h:¬kd l i=2):cms l i (i+1)=[]:=by
 unfold cms
 rcases Nat.lt_or_ge i l.length with h1|h1
 ·rw[take_one h1]
  rw[kd_at h1]at h
  have:(l[i].k==2)=false:=by rw[beq_eq_false_iff_ne];exact h
  rw[List.filter_cons_of_neg (by simp[this])]
  rfl
 ·rw[List.drop_eq_nil_of_le h1,List.take_nil];rfl
theorem cms_note{l:List Tk}{i:Nat}(h:kd l i=2)(hi:i<l.length):cms l i (i+1)=[l[i]]:=by
 unfold cms
 rw[take_one hi]
 rw[kd_at hi]at h
 rw[List.filter_cons_of_pos (by simp[h])]
 rfl
theorem cms_len(l:List Tk)(i j:Nat):(cms l i j).length≤j-i:=by
 unfold cms
 refine Nat.le_trans (List.length_filter_le _ _) ?_
 rw[List.length_take]
 exact Nat.min_le_left _ _
end Go.Proofs.YtebjmdpkobhcbaaGreatDoor.pe
