/-

-/
import Derived.Test.YtnoagleifffkcaaGreatDoorZoGKd
import Derived.Test.YtnoagleifffkcaaGreatDoorZoTk
import Derived.Test.YtnoagleifffkcaaGreatDoorZoOperand
import Derived.Test.YtnoagleifffkcaaGreatDoorZoGMk
import Derived.Test.YtnoagleifffkcaaGreatDoorZoKindB
namespace Go.Proofs.YtnoagleifffkcaaGreatDoor.pe
open Go.RowKit
open nd (Nd makeT)
open tk (Tk)
open ps (Ps fits kidI top)
open lv (levelOf opLevel)
open rt (isLval)
open operand (begins)
set_option linter.unusedVariables false
set_option linter.unusedSimpArgs false
set_option maxRecDepth 20000
def kd(l:List Tk)(i:Nat):Int:=(l[i]?.map (·.k)).getD 0
def tx(l:List Tk)(i:Nat):ByteArray:=(l[i]?.map (·.s)).getD ⟨#[]⟩
def ft(k op:Int)(p:Ps):Bool:=fits k op p.l p.d p.i p.g p.s
def kq(k op:Int)(n:Nat)(K:Int)(p:Ps):Ps:=kidI k op n K p.l p.d p.i p.g p.s
def isAsg(c:Int):Bool:=c==54||(decide (38≤c)&&decide (c≤43))
def isInc(c:Int):Bool:=c==51||c==52
def isLen(s:ByteArray):Bool:=s.toList==[108,101,110,103,116,104]
inductive R
 |bad (j:Nat)
 |ok (lv:Int) (tg:Bool) (t:List Nd) (j:Nat)
inductive P
 |bad (j:Nat)
 |ok (ps:List (List Nd)) (j:Nat)
def skp(l:List Tk):Nat→Nat→Nat
 |0,i=>i
 |g+1,i=>if kd l i=1∨kd l i=2 then skp l g (i+1)else i
def sk(l:List Tk)(i:Nat):Nat:=skp l l.length i
def bgK(c:Int):Int:=if c=3 then 2 else if c=4 then 3 else if c=5 then 4 else if c=6 then 1 else if c=7 then 7 else if c=8 then 8 else if c=68 then 6 else if c=51∨c=52 then 9 else if c=55∨c=56∨c=61 then 11 else 0
def bgO(c:Int):Int:=if c=51∨c=52∨c=55∨c=56∨c=61 then c else 0
def ctK(c:Int):Int:=if isAsg c=true then 15 else if isInc c=true then 10 else if c=65 then 14 else if c=24 then 13 else if begins c=true then 12 else if opLevel c≠0 then 12 else 0
def ctO(c:Int):Int:=if isAsg c=true then c else if isInc c=true then c else if c=65 then 0 else if c=24 then 0 else if begins c=true then 99 else if opLevel c≠0 then c else 0
def ctN(c:Int):Nat:=if isAsg c=true then 2 else if isInc c=true then 1 else if c=65 then 3 else if c=24 then 1 else 2
def may(c lv:Int)(tg:Bool)(p:Ps):Bool:=if ctK c=15∨ctK c=10 then tg else decide ((kq (ctK c) (ctO c) (ctN c) 0 p).l≤lv)
def nd0(k op:Int)(s:ByteArray):Nd:=⟨k,op,s,⟨#[]⟩,[]⟩
def fin(k op:Int)(s:ByteArray)(ps:List (List Nd))(j:Nat):R:= .ok (levelOf k op) (isLval k) (makeT (nd0 k op s) ps) j
def word(l:List Tk)(k:Int)(i:Nat):R:=fin k 0 (tx l i) [] (i+1)
section
variable (E:Ps→Nat→R) (l:List Tk)
def els(m:Nat):Nat→List (List Nd)→Nat→P
 |0,_,i=> .bad i
 |g+1,ps,i=>match E top i with
  | .bad j=> .bad j
  | .ok _ _ t j=>if ps.length+1=m∨¬kd l j=36 then .ok (ps++[t]) j else els m g (ps++[t]) (sk l (j+1))
def listed(k a b:Int)(i:Nat):R:=
 if kd l (i+1)=a then
  (if b=33∧kd l (i+2)=33 then fin k 0 (tx l i) [] (i+3)
  else match els E l 6 6 [] (i+2)with
   | .bad j=> .bad j
   | .ok ps j=>if kd l j=b then fin k 0 (tx l i) ps (j+1)else .bad j)
 else .bad (i+1)
def inn(ps:List (List Nd))(j:Nat):R:=
 if kd l j=24 then(if kd l (j+1)=6 then fin 13 0 (tx l (j+1)) ps (j+2)else .bad (j+1))else .bad j
def many(p:Ps):Nat:=if ft 13 0 p=true then 6 else 1
def group(p:Ps)(i:Nat):R:=
 match els E l (many p) (many p) [] (i+1)with
 | .bad j=> .bad j
 | .ok ps j=>if kd l j=33 then(if ps.length=1 then .ok 15 false (ps.headD []) (j+1)else inn l ps (j+1))else .bad j
def pfx(k op:Int)(p:Ps)(i:Nat):R:=
 match E (kq k op 1 0 p) (i+1)with
 | .bad j=> .bad j
 | .ok _ _ t j=>fin k op ⟨#[]⟩ [t] j
def bgR(c:Int)(p:Ps)(i:Nat):R:=
 if c=3 then word l 2 i else if c=4 then word l 3 i else if c=5 then word l 4 i
 else if c=6 then(if kd l (i+1)=34 then listed E l 5 34 35 i else word l 1 i)
 else if c=7 then listed E l 7 32 33 i
 else if c=8 then(if isLen (tx l i)=true∧¬kd l (i+1)=32 then word l 8 i else listed E l 8 32 33 i)
 else if c=68 then pfx E 6 0 p i
 else if c=51∨c=52 then(if kd l (i+1)=6∨kd l (i+1)=68 then pfx E 9 c p i else .bad (i+1))
 else if c=55∨c=56∨c=61 then pfx E 11 c p i
 else .bad i
def first(p:Ps)(i:Nat):R:=
 if kd l i=32 then group E l p i else if ft (bgK (kd l i)) (bgO (kd l i)) p=true then bgR E l (kd l i) p i else .bad i
def rd2(k op:Int)(p:Ps)(t:List Nd)(i:Nat):R:=
 match E (kq k op 2 1 p) i with
 | .bad j=> .bad j
 | .ok _ _ u j=>fin k op ⟨#[]⟩ [t,u] j
def cond(p:Ps)(t:List Nd)(i:Nat):R:=
 match E (kq 14 0 3 1 p) (i+1)with
 | .bad j=> .bad j
 | .ok _ _ u j=>
  if kd l j=66 then
   (match E (kq 14 0 3 2 p) (j+1)with
   | .bad m=> .bad m
   | .ok _ _ v m=>fin 14 0 ⟨#[]⟩ [t,u,v] m)
  else .bad j
def behind(c:Int)(i:Nat):Nat:=if c=44∨c=45 then sk l (i+1)else i+1
def step(c:Int)(p:Ps)(t:List Nd)(i:Nat):R:=
 if isAsg c=true then rd2 E 15 c p t (behind l c i)
 else if isInc c=true then fin 10 c ⟨#[]⟩ [t] (i+1)
 else if c=65 then cond E l p t i
 else if c=24 then inn l [t] i
 else if begins c=true then rd2 E 12 99 p t i
 else rd2 E 12 c p t (behind l c i)
def goes(c lv:Int)(tg:Bool)(p:Ps):Bool:=ft (ctK c) (ctO c) p&&may c lv tg p
def go(p:Ps):Nat→Int→Bool→List Nd→Nat→R
 |0,_,_,_,i=> .bad i
 |g+1,lv,tg,t,i=>if goes (kd l i) lv tg p=true then(match step E l (kd l i) p t i with
   | .bad j=> .bad j
   | .ok lv' tg' t' j=>go p g lv' tg' t' j)
  else .ok lv tg t i
end
def ex(l:List Tk):Nat→Ps→Nat→R
 |0=>fun _ i=> .bad i
 |f+1=>fun p i=>match first (ex l f) l p i with
  | .bad j=> .bad j
  | .ok lv tg t j=>go (ex l f) l p (l.length+1) lv tg t j
theorem kd_lt{l:List Tk}{i:Nat}(h:¬kd l i=0):i<l.length:=by
 rcases Nat.lt_or_ge i l.length with h'|h'
 ·exact h'
 ·exact absurd (by unfold kd;rw[List.getElem?_eq_none h'];rfl) h
theorem tx_at{l:List Tk}{i:Nat}(h:i<l.length):tx l i=l[i].s:=by
 unfold tx;rw[List.getElem?_eq_getElem h];rfl
theorem kd_end{l:List Tk}{i:Nat}(h:l.length≤i):kd l i=0:=by
 unfold kd;rw[List.getElem?_eq_none h];rfl
theorem skp_le{l:List Tk}:∀g i,i≤l.length→i≤skp l g i∧skp l g i≤l.length:=by
 intro g
 induction g with
 |zero=>intro i h;exact⟨Nat.le_refl _,h⟩
 |succ g ih=>
  intro i h
  unfold skp
  split
  ·next h1=>
   have:=kd_lt (l:=l) (i:=i) (by omega)
   have:=ih (i+1) (by omega)
   omega
  ·exact⟨Nat.le_refl _,h⟩
theorem sk_le{l:List Tk}{i:Nat}(h:i≤l.length):i≤sk l i∧sk l i≤l.length:=skp_le _ _ h
def Gn(M:Nat)(n:Nd):Prop:=n.kids.length≤6∧n.s.size≤M∧n.t.size=0∧∀x∈n.kids,wrap64 x=x
def Gd(M:Nat)(t:List Nd):Prop:=∀n∈t,Gn M n
def Ok(M:Nat)(l:List Tk)(i:Nat):R→Prop
 | .bad j=>i≤j∧j≤l.length
 | .ok lv _ t j=>i<j∧j≤l.length∧1≤lv∧t.length+1≤2*(j-i)∧0<t.length∧Gd M t
def OkS(M:Nat)(l:List Tk)(i n:Nat):R→Prop
 | .bad j=>i≤j∧j≤l.length
 | .ok lv _ t j=>i<j∧j≤l.length∧1≤lv∧t.length≤n+2*(j-i)∧0<t.length∧Gd M t
def OkP(M:Nat)(l:List Tk)(i n:Nat):P→Prop
 | .bad j=>i≤j∧j≤l.length
 | .ok ps j=>i<j∧j≤l.length∧nd.sumL ps+1≤n+2*(j-i)∧(∀q∈ps,0<q.length∧Gd M q)∧0<ps.length
theorem wrap_wrap(a b:Int):wrap64 (wrap64 a+b)=wrap64 (a+b):=by unfold wrap64;omega
theorem wrap_id{x:Int}(h0: -1000000000≤x)(h1:x≤1000000000):wrap64 x=x:=by unfold wrap64;omega
theorem gn_sh{M:Nat}{x:Int}{n:Nd}(h:Gn M n):Gn M (nd.shN x n):=by
 refine⟨by show(nd.shK x n.kids).length≤6;rw[nd.shK_len];exact h.1,h.2.1,h.2.2.1, ?_⟩
 intro y hy
 obtain⟨k,hk,rfl⟩:=List.mem_map.1 hy
 have:=wrap_wrap (k+x) 0
 rwa [Int.add_zero,Int.add_zero]at this
theorem go_all{M:Nat}:∀(ps:List (List Nd)) (out:List Nd) (ks:List Int),(∀q∈ps,Gd M q)→Gd M out→(∀x∈ks,wrap64 x=x)→out.length+nd.sumL ps≤1000000→Gd M (nd.makeGo ps out ks).1∧∀x∈(nd.makeGo ps out ks).2,wrap64 x=x:=by
 intro ps
 induction ps with
 |nil=>intro out ks _ h2 h3 _;exact⟨h2,h3⟩
 |cons q ps ih=>
  intro out ks h1 h2 h3 h4
  unfold nd.sumL at h4
  unfold nd.makeGo
  refine ih _ _ (fun q' hq=>h1 q' (List.mem_cons_of_mem _ hq)) ?_ ?_ (by rw[List.length_append,List.length_map];omega)
  ·intro n hn
   rcases List.mem_append.1 hn with hn|hn
   ·exact h2 n hn
   ·obtain⟨m,hm,rfl⟩:=List.mem_map.1 hn
    exact gn_sh (h1 q (List.mem_cons_self ..) m hm)
  ·intro x hx
   rcases List.mem_append.1 hx with hx|hx
   ·exact h3 x hx
   ·rw[List.mem_singleton]at hx
    subst hx
    rw[List.length_append,List.length_map]
    exact wrap_id (by omega) (by omega)
theorem gd_make{M:Nat}{k op:Int}{s:ByteArray}{ps:List (List Nd)}(hs:s.size≤M)(hl:ps.length≤6)(h:∀q∈ps,Gd M q)(hn:nd.sumL ps≤1000000):Gd M (makeT (nd0 k op s) ps):=by
 obtain⟨h1,h2⟩:=go_all ps [] [] h (fun n hn=>by simp at hn) (fun x hx=>by simp at hx) (by simpa using hn)
 intro n hn
 unfold makeT at hn
 rcases List.mem_append.1 hn with hn|hn
 ·exact h1 n hn
 ·rw[List.mem_singleton]at hn
  subst hn
  refine⟨?_,hs,rfl,h2⟩
  show((nd.makeGo ps [] []).2).length≤6
  rw[nd.makeGo_klen]
  simpa using hl
theorem make_len(n:Nd)(ps:List (List Nd)):(makeT n ps).length=nd.sumL ps+1:=by
 unfold makeT
 rw[List.length_append,nd.makeGo_len]
 simp
theorem sum_snoc(ps:List (List Nd))(q:List Nd):nd.sumL (ps++[q])=nd.sumL ps+q.length:=by
 induction ps with
 |nil=>simp[nd.sumL]
 |cons a ps ih=>simp only[List.cons_append,nd.sumL,ih];omega
theorem level_pos{k op:Int}(h:¬levelOf k op=0):1≤levelOf k op:=by
 have:=lv.lev_range op
 unfold levelOf at h⊢
 repeat' split
 all_goals first|omega|(simp_all;omega)
theorem fits_level{k op:Int}{p:Ps}(h:ft k op p=true):1≤levelOf k op:=by
 unfold ft fits at h
 simp only[Bool.and_eq_true,Bool.not_eq_true',beq_eq_false_iff_ne]at h
 exact level_pos h.1.1.2
section
variable {E:Ps→Nat→R} {l:List Tk} {M:Nat}
theorem tx_le(hM:∀t∈l,t.s.size≤M)(i:Nat):(tx l i).size≤M:=by
 rcases Nat.lt_or_ge i l.length with h|h
 ·rw[tx_at h];exact hM _ (List.getElem_mem h)
 ·unfold tx;rw[List.getElem?_eq_none h];exact Nat.zero_le _
theorem ok_fin{k op:Int}{s:ByteArray}{ps:List (List Nd)}{i j:Nat}(hlv:1≤levelOf k op)(hs:s.size≤M)(hl:ps.length≤6)(h:∀q∈ps,Gd M q)(hij:i<j)(hj:j≤l.length)(hb:l.length≤100000)(hn:nd.sumL ps+2≤2*(j-i)):Ok M l i (fin k op s ps j):=
 ⟨hij,hj,hlv,by rw[make_len];omega,by rw[make_len];omega,gd_make hs hl h (by omega)⟩
theorem els_ok(hE:∀p i,i≤l.length→Ok M l i (E p i))(m:Nat):∀g ps i,i≤l.length→(∀q∈ps,0<q.length∧Gd M q)→OkP M l i (nd.sumL ps) (els E l m g ps i):=by
 intro g
 induction g with
 |zero=>intro ps i h _;exact⟨Nat.le_refl _,h⟩
 |succ g ih=>
  intro ps i h hq
  have h1:=hE top i h
  unfold els
  cases hr:E top i with
  |bad j=>rw[hr]at h1;exact h1
  |ok lv tg t j=>
   rw[hr]at h1
   obtain⟨a1,a2,a3,a4,a5,a6⟩:=h1
   have hq':∀q∈ps++[t],0<q.length∧Gd M q:=by
    intro q hqq
    rcases List.mem_append.1 hqq with hqq|hqq
    ·exact hq q hqq
    ·rw[List.mem_singleton]at hqq;subst hqq;exact⟨a5,a6⟩
   by_cases hc:ps.length+1=m∨¬kd l j=36
   ·simp only[if_pos hc]
    exact⟨a1,a2,by rw[sum_snoc];omega,hq',by simp⟩
   ·simp only[if_neg hc]
    have hj:=kd_lt (l:=l) (i:=j) (by omega)
    have hs:=sk_le (l:=l) (i:=j+1) (by omega)
    have h2:=ih (ps++[t]) (sk l (j+1)) hs.2 hq'
    rw[sum_snoc]at h2
    cases hr2:els E l m g (ps++[t]) (sk l (j+1))with
    |bad j2=>rw[hr2]at h2;exact⟨by have:=h2.1;omega,h2.2⟩
    |ok ps2 j2=>
     rw[hr2]at h2
     obtain⟨b1,b2,b3,b4,b5⟩:=h2
     exact⟨by omega,b2,by omega,b4,b5⟩
theorem els_len(m:Nat):∀g ps i ps' j,els E l m g ps i= .ok ps' j→ps'.length≤ps.length+g:=by
 intro g
 induction g with
 |zero=>intro ps i ps' j h;simp[els]at h
 |succ g ih=>
  intro ps i ps' j h
  unfold els at h
  cases hr:E top i with
  |bad j=>rw[hr]at h;simp at h
  |ok lv tg t j2=>
   rw[hr]at h
   simp only at h
   split at h
   ·injection h with h1 h2;subst h1;simp
   ·have:=ih _ _ _ _ h
    simp at this
    omega
theorem listed_ok(hE:∀p i,i≤l.length→Ok M l i (E p i))(hM:∀t∈l,t.s.size≤M)(hb:l.length≤100000){k a b:Int}{i:Nat}(hk:1≤levelOf k 0)(ha:¬a=0)(hb0:¬b=0)(hi:i<l.length):Ok M l i (listed E l k a b i):=by
 unfold listed
 by_cases h1:kd l (i+1)=a
 ·rw[if_pos h1]
  have e:=kd_lt (l:=l) (i:=i+1) (by omega)
  by_cases h2:b=33∧kd l (i+2)=33
  ·rw[if_pos h2]
   have y:=kd_lt (l:=l) (i:=i+2) (by omega)
   exact ok_fin hk (tx_le hM i) (by simp) (fun q hq=>by simp at hq) (by omega) (by omega) hb (by simp only[nd.sumL];omega)
  ·rw[if_neg h2]
   have h3:=els_ok (M:=M) hE 6 6 [] (i+2) (by omega) (fun q hq=>by simp at hq)
   have h4:=els_len (E:=E) (l:=l) 6 6 [] (i+2)
   cases hr:els E l 6 6 [] (i+2)with
   |bad j=>rw[hr]at h3;exact⟨by have:=h3.1;omega,h3.2⟩
   |ok ps j=>
    rw[hr]at h3
    obtain⟨b1,b2,b3,b4,b5⟩:=h3
    have h5:=h4 _ _ hr
    simp[nd.sumL]at b3 h5
    simp only
    split
    ·next h6=>
     have:=kd_lt (l:=l) (i:=j) (by omega)
     exact ok_fin hk (tx_le hM i) h5 (fun q hq=>(b4 q hq).2) (by omega) (by omega) hb (by omega)
    ·exact⟨by omega,b2⟩
 ·rw[if_neg h1];exact⟨by omega,by omega⟩
theorem word_ok(hM:∀t∈l,t.s.size≤M)(hb:l.length≤100000){k:Int}{i:Nat}(hk:1≤levelOf k 0)(hi:i<l.length):Ok M l i (word l k i):=
 ok_fin hk (tx_le hM i) (by simp) (fun q hq=>by simp at hq) (by omega) (by omega) hb (by simp[nd.sumL])
theorem okS_fin{k op:Int}{s:ByteArray}{ps:List (List Nd)}{i j n:Nat}(hlv:1≤levelOf k op)(hs:s.size≤M)(hl:ps.length≤6)(h:∀q∈ps,Gd M q)(hij:i<j)(hj:j≤l.length)(hb:l.length≤100000)(hn:n≤2*l.length)(hsum:nd.sumL ps+1≤n+2*(j-i)):OkS M l i n (fin k op s ps j):=
 ⟨hij,hj,hlv,by rw[make_len];omega,by rw[make_len];omega,gd_make hs hl h (by omega)⟩
theorem rd2_ok(hE:∀p i,i≤l.length→Ok M l i (E p i))(hb:l.length≤100000){k op:Int}{p:Ps}{t:List Nd}{i i0:Nat}(hk:1≤levelOf k op)(ht:Gd M t)(hi:i≤l.length)(hi0:i0≤i)(hn:t.length≤2*l.length):OkS M l i0 t.length (rd2 E k op p t i):=by
 unfold rd2
 have h1:=hE (kq k op 2 1 p) i hi
 cases hr:E (kq k op 2 1 p) i with
 |bad j=>rw[hr]at h1;exact⟨by have:=h1.1;omega,h1.2⟩
 |ok lv tg u j=>
  rw[hr]at h1
  obtain⟨a1,a2,a3,a4,a5,a6⟩:=h1
  exact okS_fin hk (Nat.zero_le _) (by simp) (fun q hq=>by simp at hq;rcases hq with rfl|rfl<;>assumption) (by omega) a2 hb hn (by simp only[nd.sumL];omega)
theorem behind_le{c:Int}{i:Nat}(hi:i<l.length):i<behind l c i∧behind l c i≤l.length:=by
 unfold behind
 split
 ·have:=sk_le (l:=l) (i:=i+1) (by omega);omega
 ·omega
theorem step_ok(hE:∀p i,i≤l.length→Ok M l i (E p i))(hM:∀t∈l,t.s.size≤M)(hb:l.length≤100000){p:Ps}{t:List Nd}{i:Nat}(ht:Gd M t)(hi:i≤l.length)(hn:t.length≤2*l.length)(hf:ft (ctK (kd l i)) (ctO (kd l i)) p=true):OkS M l i t.length (step E l (kd l i) p t i):=by
 have hlv:=fits_level hf
 unfold ctK ctO at hlv
 unfold step
 have hlt:¬kd l i=0→i<l.length:=fun h=>kd_lt h
 have hone:∀q∈[t],Gd M q:=fun q hq=>by rw[List.mem_singleton]at hq;subst hq;exact ht
 split
 ·next h1=>
  simp only[if_pos h1]at hlv
  have h0:=hlt (by intro h;rw[h]at h1;exact absurd h1 (by decide))
  exact rd2_ok hE hb hlv ht (behind_le h0).2 (Nat.le_of_lt (behind_le h0).1) hn
 next h1=>
 simp only[if_neg h1]at hlv
 split
 ·next h2=>
  simp only[if_pos h2]at hlv
  have h0:=hlt (by intro h;rw[h]at h2;exact absurd h2 (by decide))
  exact okS_fin hlv (Nat.zero_le _) (by simp) hone (by omega) (by omega) hb hn (by simp only[nd.sumL];omega)
 next h2=>
 simp only[if_neg h2]at hlv
 split
 ·next h3=>
  have h0:=hlt (by omega)
  unfold cond
  have h1:=hE (kq 14 0 3 1 p) (i+1) (by omega)
  cases hr:E (kq 14 0 3 1 p) (i+1)with
  |bad j=>rw[hr]at h1;exact⟨by have:=h1.1;omega,h1.2⟩
  |ok lv tg u j=>
   rw[hr]at h1
   obtain⟨a1,a2,a3,a4,a5,a6⟩:=h1
   simp only
   split
   ·next h4=>
    have hj:=kd_lt (l:=l) (i:=j) (by omega)
    have h1:=hE (kq 14 0 3 2 p) (j+1) (by omega)
    cases hr2:E (kq 14 0 3 2 p) (j+1)with
    |bad j=>rw[hr2]at h1;exact⟨by have:=h1.1;omega,h1.2⟩
    |ok lv tg v m=>
     rw[hr2]at h1
     obtain⟨b1,b2,b3,b4,b5,b6⟩:=h1
     exact okS_fin (by decide) (Nat.zero_le _) (by simp) (fun q hq=>by simp at hq;rcases hq with rfl|rfl|rfl<;>assumption) (by omega) b2 hb hn (by simp only[nd.sumL];omega)
   ·exact⟨by omega,a2⟩
 split
 ·next h3 h4=>
  have h0:=hlt (by omega)
  unfold inn
  rw[if_pos h4]
  split
  ·have:=kd_lt (l:=l) (i:=i+1) (by omega)
   exact okS_fin (by decide) (tx_le hM _) (by simp) hone (by omega) (by omega) hb hn (by simp only[nd.sumL];omega)
  ·exact⟨by omega,by omega⟩
 next h3 h4=>
 simp only[if_neg h3,if_neg h4]at hlv
 split
 ·next h5=>
  simp only[if_pos h5]at hlv
  exact rd2_ok hE hb hlv ht hi (Nat.le_refl _) hn
 ·next h5=>
  simp only[if_neg h5]at hlv
  by_cases h6:opLevel (kd l i)≠0
  ·simp only[if_pos h6]at hlv
   have h0:=hlt (by intro h;rw[h]at h6;exact absurd h6 (by decide))
   exact rd2_ok hE hb hlv ht (behind_le h0).2 (Nat.le_of_lt (behind_le h0).1) hn
  ·simp only[if_neg h6]at hlv
   exact absurd hlv (by decide)
end
end Go.Proofs.YtnoagleifffkcaaGreatDoor.pe

namespace Go.Proofs.YtnoagleifffkcaaGreatDoor.pe
open Go.RowKit
open nd (Nd makeT)
open tk (Tk)
open ps (Ps fits kidI top posOk forb)
open lv (levelOf opLevel)
open rt (isLval)
open operand (begins)
set_option linter.unusedVariables false
set_option linter.unusedSimpArgs false
set_option maxRecDepth 20000
def cp(L:Int)(i g:Bool):Ps:=⟨L,false,i,g,false⟩
inductive Cls (c:Int):Prop
 |asg (h:isAsg c=true)
 |inc (h:isInc c=true)
 |quest (h:c=65)
 |inn (h:c=24)
 |beg (h:begins c=true)
 |op (h:opLevel c≠0)
 |none (h:ctK c=0) (ho:ctO c=0)
def lev(c:Int):Int:=levelOf (ctK c) (ctO c)
def k0(c:Int):Int:=(ps.lvls (ctK c) (ctO c)).1
def fb(c:Int)(i g:Bool):Bool:=(i&&c==24)||(g&&c==62)
section
variable {E:Ps→Nat→R} {l:List Tk} {M:Nat} {p p':Ps}
def Sd(M:Nat)(l:List Tk)(i0:Nat)(lv:Int)(t:List Nd)(i:Nat):Prop:=Ok M l i0 (.ok lv true t i)
end
end Go.Proofs.YtnoagleifffkcaaGreatDoor.pe
