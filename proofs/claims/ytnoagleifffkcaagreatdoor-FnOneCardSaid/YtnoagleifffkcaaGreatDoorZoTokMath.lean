/-

-/
import Derived.Test.YtnoagleifffkcaaGreatDoorZoGKs
import Derived.Test.YtnoagleifffkcaaGreatDoorZoGTr
import Derived.Test.YtnoagleifffkcaaGreatDoorZoTk
namespace Go.Proofs.YtnoagleifffkcaaGreatDoor.et
open Go.RowKit
open nd (Nd back stO Low shape shape_at shape_yes back_yes back_no)
open tk (Tk)
open ps (Ps fits posOk kidI kidS top)
open lv (levelOf opLevel)
open rt (treeOk nodeAt kidAt nodeF nodesTo kidsTo exprOk lastK isExpr isLval)
set_option linter.unusedVariables false
set_option linter.unusedSimpArgs false
set_option maxRecDepth 20000
def tok(k:Int):Tk:=⟨k,spell.spell k,0⟩
def nam(k:Int)(s:ByteArray):Tk:=⟨k,s,0⟩
def kp(n:Nd)(K:Int)(p:Ps):Ps:=kidI n.k n.op n.kids.length K p.l p.d p.i p.g p.s
def kd(n:Nd)(j:Nat):Nat:=(n.kids.getD j 0).toNat
def lst(E:Nat→Ps→List Tk)(n:Nd):Nat→List Tk
 |0=>[]
 |J+1=>lst E n J++(if J=0 then[]else[tok 36])++E (kd n J) top
def brack(E:Nat→Ps→List Tk)(n:Nd)(a b:Int):List Tk:=tok a::(lst E n n.kids.length++[tok b])
def body(E U:Nat→Ps→List Tk)(n:Nd)(p:Ps):List Tk:=
 if n.k=2 then[nam 3 n.s]
 else if n.k=3 then[nam 4 n.s]
 else if n.k=4 then[nam 5 n.s]
 else if n.k=5 then nam 6 n.s::brack E n 34 35
 else if n.k=6 then tok 68::E (kd n 0) (kp n 0 p)
 else if n.k=7 then nam 7 n.s::brack E n 32 33
 else if n.k=8 then nam 8 n.s::brack E n 32 33
 else if n.k=9 then tok n.op::U (kd n 0) (kp n 0 p)
 else if n.k=10 then U (kd n 0) (kp n 0 p)++[tok n.op]
 else if n.k=11 then tok n.op::E (kd n 0) (kp n 0 p)
 else if n.k=12 then E (kd n 0) (kp n 0 p)++((if n.op=99 then[]else[tok n.op])++E (kd n 1) (kp n 1 p))
 else if n.k=13 then(if 1<n.kids.length then brack E n 32 33 else E (kd n 0) (kp n 0 p))++[tok 24,nam 6 n.s]
 else if n.k=14 then E (kd n 0) (kp n 0 p)++(tok 65::(E (kd n 1) (kp n 1 p)++(tok 66::E (kd n 2) (kp n 2 p))))
 else if n.k=15 then U (kd n 0) (kp n 0 p)++(tok n.op::E (kd n 1) (kp n 1 p))
 else[nam 6 n.s]
section
variable {E U:Nat→Ps→List Tk} {n:Nd} {p:Ps}
theorem body_1(h:n.k=1):body E U n p=[nam 6 n.s]:=by unfold body;rw[if_neg (show¬n.k=2 by omega),if_neg (show¬n.k=3 by omega),if_neg (show¬n.k=4 by omega),if_neg (show¬n.k=5 by omega),if_neg (show¬n.k=6 by omega),if_neg (show¬n.k=7 by omega),if_neg (show¬n.k=8 by omega),if_neg (show¬n.k=9 by omega),if_neg (show¬n.k=10 by omega),if_neg (show¬n.k=11 by omega),if_neg (show¬n.k=12 by omega),if_neg (show¬n.k=13 by omega),if_neg (show¬n.k=14 by omega),if_neg (show¬n.k=15 by omega)]
theorem body_2(h:n.k=2):body E U n p=[nam 3 n.s]:=by unfold body;rw[if_pos h]
theorem body_3(h:n.k=3):body E U n p=[nam 4 n.s]:=by unfold body;rw[if_neg (show¬n.k=2 by omega),if_pos h]
theorem body_4(h:n.k=4):body E U n p=[nam 5 n.s]:=by unfold body;rw[if_neg (show¬n.k=2 by omega),if_neg (show¬n.k=3 by omega),if_pos h]
theorem body_5(h:n.k=5):body E U n p=nam 6 n.s::brack E n 34 35:=by unfold body;rw[if_neg (show¬n.k=2 by omega),if_neg (show¬n.k=3 by omega),if_neg (show¬n.k=4 by omega),if_pos h]
theorem body_6(h:n.k=6):body E U n p=tok 68::E (kd n 0) (kp n 0 p):=by unfold body;rw[if_neg (show¬n.k=2 by omega),if_neg (show¬n.k=3 by omega),if_neg (show¬n.k=4 by omega),if_neg (show¬n.k=5 by omega),if_pos h]
theorem body_7(h:n.k=7):body E U n p=nam 7 n.s::brack E n 32 33:=by unfold body;rw[if_neg (show¬n.k=2 by omega),if_neg (show¬n.k=3 by omega),if_neg (show¬n.k=4 by omega),if_neg (show¬n.k=5 by omega),if_neg (show¬n.k=6 by omega),if_pos h]
theorem body_8(h:n.k=8):body E U n p=nam 8 n.s::brack E n 32 33:=by unfold body;rw[if_neg (show¬n.k=2 by omega),if_neg (show¬n.k=3 by omega),if_neg (show¬n.k=4 by omega),if_neg (show¬n.k=5 by omega),if_neg (show¬n.k=6 by omega),if_neg (show¬n.k=7 by omega),if_pos h]
theorem body_9(h:n.k=9):body E U n p=tok n.op::U (kd n 0) (kp n 0 p):=by unfold body;rw[if_neg (show¬n.k=2 by omega),if_neg (show¬n.k=3 by omega),if_neg (show¬n.k=4 by omega),if_neg (show¬n.k=5 by omega),if_neg (show¬n.k=6 by omega),if_neg (show¬n.k=7 by omega),if_neg (show¬n.k=8 by omega),if_pos h]
theorem body_10(h:n.k=10):body E U n p=U (kd n 0) (kp n 0 p)++[tok n.op]:=by unfold body;rw[if_neg (show¬n.k=2 by omega),if_neg (show¬n.k=3 by omega),if_neg (show¬n.k=4 by omega),if_neg (show¬n.k=5 by omega),if_neg (show¬n.k=6 by omega),if_neg (show¬n.k=7 by omega),if_neg (show¬n.k=8 by omega),if_neg (show¬n.k=9 by omega),if_pos h]
theorem body_11(h:n.k=11):body E U n p=tok n.op::E (kd n 0) (kp n 0 p):=by unfold body;rw[if_neg (show¬n.k=2 by omega),if_neg (show¬n.k=3 by omega),if_neg (show¬n.k=4 by omega),if_neg (show¬n.k=5 by omega),if_neg (show¬n.k=6 by omega),if_neg (show¬n.k=7 by omega),if_neg (show¬n.k=8 by omega),if_neg (show¬n.k=9 by omega),if_neg (show¬n.k=10 by omega),if_pos h]
theorem body_12(h:n.k=12):body E U n p=E (kd n 0) (kp n 0 p)++((if n.op=99 then[]else[tok n.op])++E (kd n 1) (kp n 1 p)):=by unfold body;rw[if_neg (show¬n.k=2 by omega),if_neg (show¬n.k=3 by omega),if_neg (show¬n.k=4 by omega),if_neg (show¬n.k=5 by omega),if_neg (show¬n.k=6 by omega),if_neg (show¬n.k=7 by omega),if_neg (show¬n.k=8 by omega),if_neg (show¬n.k=9 by omega),if_neg (show¬n.k=10 by omega),if_neg (show¬n.k=11 by omega),if_pos h]
theorem body_13(h:n.k=13):body E U n p=(if 1<n.kids.length then brack E n 32 33 else E (kd n 0) (kp n 0 p))++[tok 24,nam 6 n.s]:=by unfold body;rw[if_neg (show¬n.k=2 by omega),if_neg (show¬n.k=3 by omega),if_neg (show¬n.k=4 by omega),if_neg (show¬n.k=5 by omega),if_neg (show¬n.k=6 by omega),if_neg (show¬n.k=7 by omega),if_neg (show¬n.k=8 by omega),if_neg (show¬n.k=9 by omega),if_neg (show¬n.k=10 by omega),if_neg (show¬n.k=11 by omega),if_neg (show¬n.k=12 by omega),if_pos h]
theorem body_14(h:n.k=14):body E U n p=E (kd n 0) (kp n 0 p)++(tok 65::(E (kd n 1) (kp n 1 p)++(tok 66::E (kd n 2) (kp n 2 p)))):=by unfold body;rw[if_neg (show¬n.k=2 by omega),if_neg (show¬n.k=3 by omega),if_neg (show¬n.k=4 by omega),if_neg (show¬n.k=5 by omega),if_neg (show¬n.k=6 by omega),if_neg (show¬n.k=7 by omega),if_neg (show¬n.k=8 by omega),if_neg (show¬n.k=9 by omega),if_neg (show¬n.k=10 by omega),if_neg (show¬n.k=11 by omega),if_neg (show¬n.k=12 by omega),if_neg (show¬n.k=13 by omega),if_pos h]
theorem body_15(h:n.k=15):body E U n p=U (kd n 0) (kp n 0 p)++(tok n.op::E (kd n 1) (kp n 1 p)):=by unfold body;rw[if_neg (show¬n.k=2 by omega),if_neg (show¬n.k=3 by omega),if_neg (show¬n.k=4 by omega),if_neg (show¬n.k=5 by omega),if_neg (show¬n.k=6 by omega),if_neg (show¬n.k=7 by omega),if_neg (show¬n.k=8 by omega),if_neg (show¬n.k=9 by omega),if_neg (show¬n.k=10 by omega),if_neg (show¬n.k=11 by omega),if_neg (show¬n.k=12 by omega),if_neg (show¬n.k=13 by omega),if_neg (show¬n.k=14 by omega),if_pos h]
end
def mis(n:Nd)(p:Ps):Bool:= !fits n.k n.op p.l p.d p.i p.g p.s
def full(n:Nd)(_p:Ps):Bool:= !(levelOf n.k n.op==15)||n.k==4
def par(enc:Nd→Ps→Bool)(l:List Nd)(U:Nat→Ps→List Tk)(i:Nat)(p:Ps):List Tk:=
 if enc (l.getD i default) p=true then tok 32::(U i top++[tok 33])else U i p
def un(enc:Nd→Ps→Bool)(l:List Nd):Nat→Nat→Ps→List Tk
 |0,_,_=>[]
 |f+1,i,p=>body (par enc l (un enc l f)) (un enc l f) (l.getD i default) p
def ex(enc:Nd→Ps→Bool)(l:List Nd)(f:Nat):Nat→Ps→List Tk:=par enc l (un enc l f)
theorem un_succ(enc:Nd→Ps→Bool)(l:List Nd)(f i:Nat)(p:Ps):un enc l (f+1) i p=body (ex enc l f) (un enc l f) (l.getD i default) p:=rfl
theorem tree_parts{l:List Nd}(h:treeOk l=true):nd.shape l=true∧∀i,i<l.length→nodeAt l i=true:=by
 unfold treeOk at h
 rw[Bool.and_eq_true,Bool.and_eq_true]at h
 refine⟨h.1.1,fun i hi=> ?_⟩
 have h2:=h.2
 unfold nodesTo at h2
 rw[List.all_eq_true]at h2
 exact h2 i (List.mem_range.2 hi)
theorem tree_node{l:List Nd}(h:treeOk l=true){i:Nat}(hi:i<l.length):nodeF l[i]=true∧∀p,p<l[i].kids.length→kidAt l l[i] p=true:=by
 have h1:=(tree_parts h).2 i hi
 rw[rt.nodeAt_of hi,Bool.and_eq_true]at h1
 refine⟨h1.1,fun p hp=> ?_⟩
 have h2:=h1.2
 unfold kidsTo at h2
 rw[List.all_eq_true]at h2
 exact h2 p (List.mem_range.2 hp)
theorem getD_at{l:List Nd}{i:Nat}(hi:i<l.length):l.getD i default=l[i]:=by
 rw[List.getD_eq_getElem?_getD,List.getElem?_eq_getElem hi];rfl
structure Good(l:List Nd)(i:Nat)(n:Nd):Prop where
 at_:l.getD i default=n
 kind:isExpr n.k=true
 kids:∀j,j<n.kids.length→kd n j<i∧n.kids.getD j 0=(kd n j:Int)∧isExpr (l.getD (kd n j) default).k=true
 lval:n.k=9∨n.k=10∨n.k=15→isLval (l.getD (kd n 0) default).k=true
 one:n.k=6∨n.k=9∨n.k=10∨n.k=11→n.kids.length=1
 two:n.k=12∨n.k=15→n.kids.length=2
 three:n.k=14→n.kids.length=3
 least:n.k=5∨n.k=13→1≤n.kids.length
 most:n.kids.length≤6
 op12:n.k=12→¬opLevel n.op=0
theorem expr_range{k:Int}(h:isExpr k=true):1≤k∧k≤15:=by
 simp[isExpr,chars.inR]at h
 exact h
theorem bin_level{op:Int}(h:rt.isBin op=true):¬opLevel op=0:=by
 simp only[rt.isBin,Bool.or_eq_true,beq_iff_eq]at h
 rcases h with (((((((((((((((h|h)|h)|h)|h)|h)|h)|h)|h)|h)|h)|h)|h)|h)|h)|h)|h<;>subst h<;>decide
theorem good{l:List Nd}(h:treeOk l=true){i:Nat}(hi:i<l.length)(hk:isExpr l[i].k=true):Good l i l[i]:=by
 obtain⟨hf,hkid⟩:=tree_node h hi
 obtain⟨hs,-⟩:=tree_parts h
 have hat:=(shape_at hs hi).2
 have hr:=expr_range hk
 obtain⟨n,hn⟩:∃n,n=l[i]:=⟨_,rfl⟩
 rw[←hn]at hf hkid hat hr hk⊢
 unfold nodeF at hf
 obtain⟨hop,y,F⟩:=rt.fields_parts hf
 have hlim:rt.lim n.kids.length n.k n.op n.t=rt.lim0 n.k n.op n.t:=by unfold rt.lim;rw[if_neg (by omega)]
 rw[hlim]at y F
 have hkids:∀j,j<n.kids.length→kd n j<i∧n.kids.getD j 0=(kd n j:Int)∧isExpr (l.getD (kd n j) default).k=true∧kidAt l n j=true:=by
  intro j hj
  have hm:=hat n.kids[j] (List.getElem_mem hj)
  have e:n.kids.getD j 0=n.kids[j]:=by rw[List.getD_eq_getElem?_getD,List.getElem?_eq_getElem hj];rfl
  have hkj:n.kids.getD j 0=(kd n j:Int):=by unfold kd;omega
  have hlt:kd n j<i:=by omega
  refine⟨hlt,hkj, ?_,hkid j hj⟩
  have hko:=hkid j hj
  have:kidAt l n j=rt.kid n.k n.op n.kids.length j (l.getD (kd n j) default).k:=rfl
  rw[this]at hko
  obtain⟨c,hc⟩:∃c,c=(l.getD (kd n j) default).k:=⟨_,rfl⟩
  rw[←hc]at hko⊢
  unfold rt.kid at hko
  rw[if_neg (show¬n.k=28 by omega),if_neg (show¬n.k=29 by omega),if_neg (show¬n.k=30 by omega),if_neg (show¬n.k=31 by omega),if_neg (show¬(n.k=32∨n.k=40∨n.k=41) by omega),if_neg (show¬n.k=33 by omega),if_neg (show¬n.k=42 by omega),if_neg (show¬n.k=43 by omega),if_neg (show¬n.k=44 by omega),if_neg (show¬n.k=45 by omega)]at hko
  split at hko
  ·simp only[isLval,Bool.or_eq_true,beq_iff_eq]at hko
   simp[isExpr,chars.inR]
   omega
  ·split at hko
   ·rw[Bool.and_eq_true]at hko;exact hko.1
   ·exact hko
 have lim_of:∀a b:Int,rt.lim0 n.k n.op n.t=(a,b)→a≤n.kids.length∧(n.kids.length:Int)≤b:=fun a b e=>by rw[e]at y F;exact⟨y,F⟩
 have h1:n.k=6∨n.k=9∨n.k=10∨n.k=11→n.kids.length=1:=fun h=>by
  have:=lim_of 1 1 (by rcases h with h|h|h|h<;>simp[rt.lim0,h])
  omega
 have h2:n.k=12∨n.k=15→n.kids.length=2:=fun h=>by
  have:=lim_of 2 2 (by rcases h with h|h<;>simp[rt.lim0,h])
  omega
 have h3:n.k=14→n.kids.length=3:=fun h=>by
  have:=lim_of 3 3 (by simp[rt.lim0,h])
  omega
 have h5:n.k=5∨n.k=13→1≤n.kids.length∧n.kids.length≤6:=fun h=>by
  have:=lim_of 1 6 (by rcases h with h|h<;>simp[rt.lim0,h])
  omega
 have h7:n.k=7∨n.k=8→n.kids.length≤6:=fun h=>by
  have:=lim_of 0 6 (by rcases h with h|h<;>simp[rt.lim0,h])
  omega
 have h0:n.k=1∨n.k=2∨n.k=3∨n.k=4→n.kids.length=0:=fun h=>by
  have:=lim_of 0 0 (by rcases h with h|h|h|h<;>simp[rt.lim0,h])
  omega
 refine⟨(getD_at hi).trans hn.symm,hk,fun j hj=>⟨(hkids j hj).1,(hkids j hj).2.1,(hkids j hj).2.2.1⟩,fun hq=> ?_,h1,h2,h3,fun h=>(h5 h).1, ?_,fun h=> ?_⟩
 ·have hlen:0<n.kids.length:=by
   rcases hq with h|h|h
   ·rw[h1 (by omega)];exact Nat.one_pos
   ·rw[h1 (by omega)];exact Nat.one_pos
   ·rw[h2 (by omega)];exact Nat.two_pos
  have hko:=(hkids 0 hlen).2.2.2
  have:kidAt l n 0=rt.kid n.k n.op n.kids.length 0 (l.getD (kd n 0) default).k:=rfl
  rw[this]at hko
  rcases hq with h|h|h
  ·rw[h]at hko;simpa [rt.kid]using hko
  ·rw[h]at hko;simpa [rt.kid]using hko
  ·rw[h]at hko
   simp[rt.kid]at hko
   exact hko.2
 ·by_cases c0:n.k=1∨n.k=2∨n.k=3∨n.k=4
  ·have:=h0 c0;omega
  by_cases c1:n.k=6∨n.k=9∨n.k=10∨n.k=11
  ·have:=h1 c1;omega
  by_cases c2:n.k=12∨n.k=15
  ·have:=h2 c2;omega
  by_cases c3:n.k=14
  ·have:=h3 c3;omega
  by_cases c5:n.k=5∨n.k=13
  ·exact(h5 c5).2
  ·exact h7 (by omega)
 ·refine bin_level ?_
  simpa [rt.opOk,h]using hop
theorem Good.at{l:List Nd}(h:treeOk l=true){i:Nat}(hi:i<l.length){n:Nd}(hn:l.getD i default=n)(hk:isExpr n.k=true):Good l i n:=by
 rw[getD_at hi]at hn
 subst hn
 exact good h hi hk
theorem level_some{l:List Nd}{i:Nat}{n:Nd}(g:Good l i n):¬levelOf n.k n.op=0:=by
 have hr:=expr_range g.kind
 unfold levelOf
 by_cases h12:n.k=12
 ·have:=g.op12 h12
  rw[if_neg (by omega),if_neg (by omega),if_neg (by omega),if_pos h12]
  exact this
 ·repeat' split
  all_goals omega
theorem kp_ok{l:List Nd}{i:Nat}{n:Nd}(g:Good l i n){p:Ps}(hp:posOk p.l p.d=true){j:Nat}(hj:j<n.kids.length):posOk (kp n j p).l (kp n j p).d=true∧kp n j p=kidS n.k n.op n.kids.length j p.l p.d p.i p.g p.s:=by
 have e:kp n j p=kidS n.k n.op n.kids.length j p.l p.d p.i p.g p.s:=ps.kid_same _ _ _ _ _ _ _ _ _ (fun y _=>by have:=g.two (.inl y);omega)
 refine⟨?_,e⟩
 rw[e]
 exact(ps.kid_good n.k n.op n.kids.length j p.l p.d p.i p.g p.s ⟨hp,by omega,by omega,level_some g⟩).1
theorem top_ok:posOk top.l top.d=true:=by decide
structure Way(enc:Nd→Ps→Bool):Prop where
 dollar:∀n i g i' g',enc n ⟨14,true,i,g,false⟩=enc n ⟨14,true,i',g',false⟩
 bare:∀n i g,isExpr n.k=true→enc n ⟨14,true,i,g,false⟩=false→n.k≤9
theorem Low.take{ss:List Nat}(h:Low ss)(i:Nat):Low (ss.take i):=fun j hj=>by
 simp at hj
 rw[List.getElem_take]
 exact h j (by omega)
theorem getD_take{ss:List Nat}{i q:Nat}(h:q<i):(ss.take i).getD q 0=ss.getD q 0:=by
 rw[List.getD_eq_getElem?_getD,List.getD_eq_getElem?_getD,List.getElem?_take,if_pos h]
def sz(l:List Nd)(i:Nat):Nat:=i+1-(stO l).getD i 0
def szs(ss:List Nat):List Int→Nat
 |[]=>0
 |k::ks=>(k.toNat+1-ss.getD k.toNat 0)+szs ss ks
theorem szs_append(ss:List Nat)(a b:List Int):szs ss (a++b)=szs ss a+szs ss b:=by
 induction a with
 |nil=>simp[szs]
 |cons k a ih=>simp only[List.cons_append,szs,ih];omega
theorem szs_reverse(ss:List Nat)(a:List Int):szs ss a.reverse=szs ss a:=by
 induction a with
 |nil=>rfl
 |cons k a ih=>rw[List.reverse_cons,szs_append,ih];simp only[szs];omega
theorem back_sum{ss:List Nat}(hl:Low ss):∀(ks:List Int) (p s:Nat),p≤ss.length→back ss ks p=some s→szs ss ks+s=p:=by
 intro ks
 induction ks with
 |nil=>intro p s _ h;simp[back]at h;simp[szs,h]
 |cons k ks ih=>
  intro p s hp h
  by_cases hc:k=(p:Int)-1∧p≠0
  ·rw[back_yes hc.1 hc.2]at h
   have hg:=hl.get (i:=p-1) (by omega)
   have:=ih _ s (by omega) h
   have e:k.toNat=p-1:=by omega
   simp only[szs,e]
   omega
  ·rw[back_no hc]at h;cases h
theorem szs_take{ss:List Nat}{i:Nat}:∀(ks:List Int),(∀k∈ks,0≤k∧k<(i:Int))→szs (ss.take i) ks=szs ss ks:=by
 intro ks
 induction ks with
 |nil=>intro _;rfl
 |cons k ks ih=>
  intro h
  have:=h k (List.mem_cons_self ..)
  simp only[szs]
  rw[ih (fun k hk=>h k (List.mem_cons_of_mem _ hk)),getD_take (by omega)]
theorem sz_kids{l:List Nd}(h:nd.shape l=true){i:Nat}(hi:i<l.length):sz l i=1+szs (stO l) l[i].kids:=by
 obtain⟨h1,h2,h3,h4,h5,h6⟩:=shape_yes h
 obtain⟨hb,hm⟩:=shape_at h hi
 have:=back_sum (Low.take h5 i) _ i _ (by simp;omega) hb
 rw[szs_reverse,szs_take _ hm]at this
 have:=h5.get (i:=i) (by omega)
 unfold sz
 omega
def sum(l:List Nd)(n:Nd):Nat→Nat
 |0=>0
 |J+1=>sum l n J+sz l (kd n J)
theorem szs_sum(l:List Nd)(n:Nd):∀J,J≤n.kids.length→szs (stO l) (n.kids.take J)=sum l n J:=by
 intro J
 induction J with
 |zero=>intro _;simp[szs,sum]
 |succ J ih=>
  intro hJ
  rw[List.take_succ_eq_append_getElem (by omega),szs_append,ih (by omega)]
  have e:n.kids[J]=n.kids.getD J 0:=by rw[List.getD_eq_getElem?_getD,List.getElem?_eq_getElem (by omega)];rfl
  simp only[szs,sum,sz,kd,e]
  omega
theorem sz_sum{l:List Nd}(h:treeOk l=true){i:Nat}(hi:i<l.length){n:Nd}(hn:l.getD i default=n):sz l i=1+sum l n n.kids.length:=by
 rw[getD_at hi]at hn
 subst hn
 rw[sz_kids (tree_parts h).1 hi,←szs_sum l l[i] _ (Nat.le_refl _),List.take_length]
theorem lst_len{E:Nat→Ps→List Tk}{l:List Nd}{n:Nd}:∀J,J≤n.kids.length→(∀j,j<n.kids.length→(E (kd n j) top).length+1≤6*sz l (kd n j))→(lst E n J).length+(if J=0 then 0 else 1)≤6*sum l n J:=by
 intro J
 induction J with
 |zero=>intro _ _;simp[lst]
 |succ J ih=>
  intro hJ hE
  have h1:=ih (by omega) hE
  have h2:=hE J (by omega)
  simp only[lst,List.length_append,sum,Nat.succ_ne_zero,if_false]
  split at h1
  ·next h0=>subst h0;simp;omega
  ·next h0=>rw[if_neg h0];simp;omega
theorem un_len{enc:Nd→Ps→Bool}{l:List Nd}(h:treeOk l=true):∀(f i:Nat) (p:Ps),i<f→i<l.length→isExpr (l.getD i default).k=true→(un enc l f i p).length+3≤6*sz l i:=by
 intro f
 induction f with
 |zero=>intro i p hi;omega
 |succ f ih=>
  intro i p hi hl hk
  obtain⟨n,hn⟩:∃n,l.getD i default=n:=⟨_,rfl⟩
  rw[hn]at hk
  have g:=Good.at h hl hn hk
  rw[un_succ,hn,sz_sum h hl hn]
  have hU:∀j q,j<n.kids.length→(un enc l f (kd n j) q).length+3≤6*sz l (kd n j):=fun j q hj=>by
   obtain⟨k1,k2,k3⟩:=g.kids j hj
   exact ih (kd n j) q (by omega) (by omega) k3
  have hE:∀j q,j<n.kids.length→(ex enc l f (kd n j) q).length+1≤6*sz l (kd n j):=fun j q hj=>by
   unfold ex par
   split
   ·have:=hU j top hj
    simp only[List.length_cons,List.length_append,List.length_nil]
    omega
   ·have:=hU j q hj
    omega
  have y:=lst_len (l:=l) (n:=n) (E:=ex enc l f) n.kids.length (Nat.le_refl _) (fun j hj=>hE j top hj)
  have hL:(lst (ex enc l f) n n.kids.length).length≤6*sum l n n.kids.length:=by omega
  have F:0<n.kids.length→(lst (ex enc l f) n n.kids.length).length+1≤6*sum l n n.kids.length:=fun h=>by rw[if_neg (by omega)]at y;exact y
  have hr:=expr_range hk
  have s1:n.kids.length=1→sum l n n.kids.length=sz l (kd n 0):=fun e=>by rw[e];simp[sum]
  have s2:n.kids.length=2→sum l n n.kids.length=sz l (kd n 0)+sz l (kd n 1):=fun e=>by rw[e];simp[sum]
  have s3:n.kids.length=3→sum l n n.kids.length=sz l (kd n 0)+sz l (kd n 1)+sz l (kd n 2):=fun e=>by rw[e];simp[sum]
  by_cases c2:n.k=2
  ·rw[body_2 c2];simp only[brack,List.length_cons,List.length_append,List.length_nil];omega
  by_cases c3:n.k=3
  ·rw[body_3 c3];simp only[brack,List.length_cons,List.length_append,List.length_nil];omega
  by_cases c4:n.k=4
  ·rw[body_4 c4];simp only[brack,List.length_cons,List.length_append,List.length_nil];omega
  by_cases c5:n.k=5
  ·rw[body_5 c5];simp only[brack,List.length_cons,List.length_append,List.length_nil];omega
  by_cases c6:n.k=6
  ·rw[body_6 c6];have e:=g.one (by omega);have:=hE 0 (kp n 0 p) (by omega);have:=s1 e;simp only[brack,List.length_cons,List.length_append,List.length_nil];omega
  by_cases c7:n.k=7
  ·rw[body_7 c7];simp only[brack,List.length_cons,List.length_append,List.length_nil];omega
  by_cases c8:n.k=8
  ·rw[body_8 c8];simp only[brack,List.length_cons,List.length_append,List.length_nil];omega
  by_cases c9:n.k=9
  ·rw[body_9 c9];have e:=g.one (by omega);have:=hU 0 (kp n 0 p) (by omega);have:=s1 e;simp only[brack,List.length_cons,List.length_append,List.length_nil];omega
  by_cases c10:n.k=10
  ·rw[body_10 c10];have e:=g.one (by omega);have:=hU 0 (kp n 0 p) (by omega);have:=s1 e;simp only[brack,List.length_cons,List.length_append,List.length_nil];omega
  by_cases c11:n.k=11
  ·rw[body_11 c11];have e:=g.one (by omega);have:=hE 0 (kp n 0 p) (by omega);have:=s1 e;simp only[brack,List.length_cons,List.length_append,List.length_nil];omega
  by_cases c12:n.k=12
  ·rw[body_12 c12]
   have e:=g.two (by omega)
   have:=hE 0 (kp n 0 p) (by omega)
   have:=hE 1 (kp n 1 p) (by omega)
   have:=s2 e
   by_cases h99:n.op=99
   ·rw[if_pos h99];simp only[brack,List.length_cons,List.length_append,List.length_nil];omega
   ·rw[if_neg h99];simp only[brack,List.length_cons,List.length_append,List.length_nil];omega
  by_cases c13:n.k=13
  ·rw[body_13 c13]
   have e:=g.least (by omega)
   by_cases h1:1<n.kids.length
   ·have:=F (by omega);rw[if_pos h1];simp only[brack,List.length_cons,List.length_append,List.length_nil];omega
   ·rw[if_neg h1]
    have e1:n.kids.length=1:=by omega
    have:=hE 0 (kp n 0 p) (by omega)
    have:=s1 e1
    simp only[brack,List.length_cons,List.length_append,List.length_nil];omega
  by_cases c14:n.k=14
  ·rw[body_14 c14]
   have e:=g.three (by omega)
   have:=hE 0 (kp n 0 p) (by omega)
   have:=hE 1 (kp n 1 p) (by omega)
   have:=hE 2 (kp n 2 p) (by omega)
   have:=s3 e
   simp only[brack,List.length_cons,List.length_append,List.length_nil];omega
  by_cases c15:n.k=15
  ·rw[body_15 c15]
   have e:=g.two (by omega)
   have:=hU 0 (kp n 0 p) (by omega)
   have:=hE 1 (kp n 1 p) (by omega)
   have:=s2 e
   simp only[brack,List.length_cons,List.length_append,List.length_nil];omega
  ·rw[body_1 (by omega)];simp only[brack,List.length_cons,List.length_append,List.length_nil];omega
theorem ex_len{enc:Nd→Ps→Bool}{l:List Nd}(h:treeOk l=true){f i:Nat}{p:Ps}(hi:i<f)(hl:i<l.length)(hk:isExpr (l.getD i default).k=true):(ex enc l f i p).length≤2400:=by
 have hU:=fun q=>un_len (enc:=enc) h f i q hi hl hk
 have e:=(shape_yes (tree_parts h).1).2.1
 have hs:sz l i≤i+1:=by unfold sz;omega
 unfold ex par
 split
 ·have:=hU top
  simp only[List.length_cons,List.length_append,List.length_nil]
  omega
 ·have:=hU p
  omega
end Go.Proofs.YtnoagleifffkcaaGreatDoor.et
