/-

-/
import Derived.Test.YtnoagleifffkcaaGreatDoorZoGSm
import Derived.Test.YtnoagleifffkcaaGreatDoorZoGPm
import Derived.Test.YtnoagleifffkcaaGreatDoorZoTokMath
import Derived.Test.YtnoagleifffkcaaGreatDoorZoGWx
import Derived.Test.YtnoagleifffkcaaGreatDoorZoGPi
import Derived.Test.YtnoagleifffkcaaGreatDoorZoParens
namespace Go.Proofs.YtnoagleifffkcaaGreatDoor.rb
open Go.RowKit
open nd (Nd back stO Low shape shape_at shape_yes partS shN shK makeT makeGo)
open rt (treeOk nodeF isExpr)
open et
set_option linter.unusedVariables false
set_option linter.unusedSimpArgs false
set_option maxRecDepth 20000
def sub(l:List Nd)(i:Nat):List Nd:=partS l ((stO l).getD i 0) i
def dn(S:Nat)(n:Nd):Nd:={n with kids:=n.kids.map fun k=>k-(S:Int)}
theorem sh_dn{S U I:Nat}{n:Nd}(h:∀k∈n.kids,(U:Int)≤k∧k<(I:Int))(hI:I≤400)(hS:S≤U):shN ((U-S:Nat):Int) (shN (-(U:Int)) n)=dn S n:=by
 unfold shN dn shK
 simp only[List.map_map,Nd.mk.injEq,true_and]
 refine List.map_congr_left fun k hk=> ?_
 obtain⟨h1,h2⟩:=h k hk
 simp only[Function.comp]
 rw[nd.wrap_w (k+ -(U:Int)) (by omega) (by omega),nd.wrap_w _ (by omega) (by omega)]
 omega
theorem sh_dn0{S I:Nat}{n:Nd}(h:∀k∈n.kids,(S:Int)≤k∧k<(I:Int))(hI:I≤400):shN (-(S:Int)) n=dn S n:=by
 unfold shN dn shK
 simp only[Nd.mk.injEq,true_and]
 refine List.map_congr_left fun k hk=> ?_
 obtain⟨h1,h2⟩:=h k hk
 rw[nd.wrap_w _ (by omega) (by omega)]
 omega
theorem kids_in{l:List Nd}(h:nd.shape l=true){S:Nat}{x:Nd}{U n:Nat}(hm:x∈(l.drop U).take n)(hn:U+n≤l.length)(hS:∀j,U≤j→j<U+n→S≤(stO l).getD j 0):∀k∈x.kids,(S:Int)≤k∧k<((U+n:Nat):Int):=by
 obtain⟨j,hj,rfl⟩:=List.mem_iff_getElem.1 hm
 simp at hj
 intro k hk
 simp at hk
 have h1:=nd.sh_kid h (P:=U+j) (by omega) hk
 have h2:=hS (U+j) (by omega) (by omega)
 exact⟨by omega,by omega⟩
theorem chain{l:List Nd}(h:nd.shape l=true):∀(rs:List Int) (p S:Nat),p≤l.length→back (stO l) rs p=some S→S≤p∧(∀j,S≤j→j<p→S≤(stO l).getD j 0)∧makeGo (rs.reverse.map fun k=>sub l k.toNat) [] []=(((l.drop S).take (p-S)).map (dn S),rs.reverse.map fun k=>k-(S:Int)):=by
 obtain⟨h1,h2,h3,h4,h5,h6⟩:=shape_yes h
 intro rs
 induction rs with
 |nil=>
  intro p S hp hb
  have:p=S:=by simpa [back]using hb
  subst this
  exact⟨Nat.le_refl _,fun j a b=>by omega,by simp[makeGo]⟩
 |cons k rs ih=>
  intro p S hp hb
  obtain⟨q,rfl,rfl,y⟩:=nd.back_cons hb
  clear hb
  have hb:=y
  clear y
  obtain⟨U,hU⟩:∃U,(stO l).getD q 0=U:=⟨_,rfl⟩
  rw[hU]at hb
  have hUq:U≤q:=by rw[←hU];exact h5.get (by omega)
  obtain⟨i1,i2,i3⟩:=ih U S (by omega) hb
  have hst:∀j,U≤j→j<q+1→U≤(stO l).getD j 0:=fun j a b=>by
   have:=nd.sh_nest h q (by omega) j (by rw[hU];exact a) (by omega)
   rw[hU]at this;exact this
  refine⟨by omega,fun j a b=> ?_, ?_⟩
  ·by_cases hj:j<U
   ·exact i2 j a hj
   ·have:=hst j (by omega) b;omega
  ·rw[List.reverse_cons,List.map_append,List.map_singleton,nd.makeGo_snoc,i3]
   have e:sub l (q:Int).toNat=((l.drop U).take (q+1-U)).map (shN (-(U:Int))):=by
    unfold sub partS
    rw[Int.toNat_natCast,hU]
   have hl:(((l.drop S).take (U-S)).map (dn S)).length=U-S:=by simp;omega
   have e2:(sub l (q:Int).toNat).map (shN ((((l.drop S).take (U-S)).map (dn S)).length:Int))=((l.drop U).take (q+1-U)).map (dn S):=by
    rw[e,hl,List.map_map]
    refine List.map_congr_left fun x hx=> ?_
    exact sh_dn (kids_in h hx (by omega) (fun j a b=>hst j a (by omega))) (by omega) i1
   have e3:((l.drop S).take (U-S)).map (dn S)++((l.drop U).take (q+1-U)).map (dn S)=((l.drop S).take (q+1-S)).map (dn S):=by
    rw[←List.map_append,show q+1-S=(U-S)+(q+1-U) by omega,List.take_add,List.drop_drop,show S+(U-S)=U by omega]
   simp only
   rw[e2,e3,List.map_append,List.map_singleton]
   simp
   omega
theorem flds{l:List Nd}(h:treeOk l=true){i:Nat}(hi:i<l.length){n:Nd}(hn:l.getD i default=n)(hk:isExpr n.k=true):n.t=⟨#[]⟩∧(n.k∈[1,2,3,4,5,6,7,8,13,14]→n.op=0)∧(n.k∈[6,9,10,11,12,14,15]→n.s=⟨#[]⟩)∧rt.opOk n.k n.op=true∧rt.textOk n.k n.s=true∧(n.k≤4→n.kids=[]):=by
 have he:∀s:ByteArray,s.toList.isEmpty=true→s=⟨#[]⟩:=fun s hs=>by
  by_cases h0:0<s.size
  ·rw[chars.ne_empty h0]at hs;cases hs
  ·have:s.data= #[]:=Array.eq_empty_of_size_eq_zero (by have:s.data.size=s.size:=rfl;omega)
   cases s;simp_all
 rw[getD_at hi]at hn
 subst hn
 obtain⟨hf,-⟩:=tree_node h hi
 have hr:=expr_range hk
 obtain⟨n,hn⟩:∃n,n=l[i]:=⟨_,rfl⟩
 rw[←hn]at hf hr hk⊢
 unfold nodeF at hf
 have y:=hf
 unfold rt.fieldsOk at hf
 simp only[Bool.and_eq_true]at hf
 obtain⟨-,F,j⟩:=rt.fields_parts y
 obtain⟨⟨⟨⟨-,hop⟩,hs⟩,ht⟩,-⟩:=hf
 refine⟨he _ ?_,fun hm=> ?_,fun hm=>he _ ?_,hop,hs,fun h4=> ?_⟩
 ·unfold rt.otherOk at ht
  rw[if_neg (by omega),if_neg (by omega)]at ht
  exact ht
 ·simp at hm
  rcases hm with h|h|h|h|h|h|h|h|h|h<;>rw[h]at hop<;>simpa [rt.opOk]using hop
 ·simp at hm
  rcases hm with h|h|h|h|h|h|h<;>rw[h]at hs<;>simpa [rt.textOk]using hs
 ·have hlim:rt.lim n.kids.length n.k n.op n.t=rt.lim0 n.k n.op n.t:=by unfold rt.lim;rw[if_neg (by omega)]
  rw[hlim]at j
  have e:rt.lim0 n.k n.op n.t=(0,0):=by
   have:n.k=1∨n.k=2∨n.k=3∨n.k=4:=by omega
   rcases this with h|h|h|h<;>simp[rt.lim0,h]
  rw[e]at j
  simp at j
  exact j
theorem sub_make{l:List Nd}(h:treeOk l=true){i:Nat}(hi:i<l.length){n:Nd}(hn:l.getD i default=n)(hk:isExpr n.k=true):sub l i=makeT (pe.nd0 n.k n.op n.s) (n.kids.map fun k=>sub l k.toNat):=by
 have ht:=(flds h hi hn hk).1
 rw[getD_at hi]at hn
 have hs:=(tree_parts h).1
 obtain⟨h1,h2,h3,h4,h5,h6⟩:=shape_yes hs
 have hb:=nd.sh_back hs hi
 obtain⟨S,hS⟩:∃S,(stO l).getD i 0=S:=⟨_,rfl⟩
 rw[hS,hn]at hb
 obtain⟨c1,c2,c3⟩:=chain hs _ i S (by omega) hb
 rw[List.reverse_reverse]at c3
 unfold makeT
 rw[c3]
 unfold sub partS
 rw[hS,show i+1-S=(i-S)+1 by omega,List.take_add,List.map_append]
 have e1:((l.drop S).take (i-S)).map (shN (-(S:Int)))=((l.drop S).take (i-S)).map (dn S):=List.map_congr_left fun x hx=>sh_dn0 (kids_in hs hx (by omega) (fun j a b=>c2 j a (by omega))) (by omega)
 have e2:((l.drop S).drop (i-S)).take 1=[n]:=by
  rw[List.drop_drop,show S+(i-S)=i by omega,List.drop_eq_getElem_cons hi,hn]
  rfl
 have e3:shN (-(S:Int)) n=dn S n:=sh_dn0 (I:=i) (fun k hk=>by
  have:=nd.sh_kid hs hi (k:=k) (by rw[hn];exact hk)
  rw[hS]at this
  exact⟨this.2.2,this.2.1⟩) (by omega)
 rw[e1,e2,List.map_singleton,e3]
 simp[dn,pe.nd0,ht]
theorem sub_all{l:List Nd}(h:treeOk l=true):sub l (l.length-1)=l:=nd.part_all (tree_parts h).1
end Go.Proofs.YtnoagleifffkcaaGreatDoor.rb

namespace Go.Proofs.YtnoagleifffkcaaGreatDoor.rb
open Go.RowKit
open nd (Nd makeT)
open tk (Tk)
open ps (Ps fits posOk forb kidI lvls sdI brk nsI top)
open lv (levelOf opLevel)
open rt (treeOk isExpr isLval)
open operand (begins)
open pe (R P tx ft kq first go els goes may ctK ctO ctN isAsg isInc isLen sk behind fin)
open et (kp kd Good)
set_option linter.unusedVariables false
set_option linter.unusedSimpArgs false
set_option maxRecDepth 20000
section
variable (L:List Tk) (l:List Nd)
def Ls(D:Nat→Ps→Nat→Nat→Prop):List Int→Nat→Nat→Prop
 |[],a,b=>a=b
 |k::r,a,b=>∃m,D k.toNat top a m∧((r=[]∧b=m)∨(r≠[]∧pe.kd L m=36∧Ls D r (sk L (m+1)) b))
def Br(D:Nat→Ps→Nat→Nat→Prop)(ks:List Int)(x y:Int)(a b:Nat):Prop:=pe.kd L a=x∧∃m,Ls L D ks (a+1) m∧pe.kd L m=y∧b=m+1
structure Bd(D V:Nat→Ps→Nat→Nat→Prop)(n:Nd)(p:Ps)(a b:Nat):Prop where
 b1:n.k=1→pe.kd L a=6∧tx L a=n.s∧b=a+1
 b2:n.k=2→pe.kd L a=3∧tx L a=n.s∧b=a+1
 b3:n.k=3→pe.kd L a=4∧tx L a=n.s∧b=a+1
 b4:n.k=4→pe.kd L a=5∧tx L a=n.s∧b=a+1
 b5:n.k=5→pe.kd L a=6∧tx L a=n.s∧Br L D n.kids 34 35 (a+1) b
 b6:n.k=6→pe.kd L a=68∧D (kd n 0) (kp n 0 p) (a+1) b
 b7:n.k=7→pe.kd L a=7∧tx L a=n.s∧Br L D n.kids 32 33 (a+1) b
 b8:n.k=8→pe.kd L a=8∧tx L a=n.s∧((isLen n.s=true∧n.kids=[]∧¬pe.kd L (a+1)=32∧b=a+1)∨Br L D n.kids 32 33 (a+1) b)
 b9:n.k=9→pe.kd L a=n.op∧V (kd n 0) (kp n 0 p) (a+1) b
 b10:n.k=10→∃m,V (kd n 0) (kp n 0 p) a m∧pe.kd L m=n.op∧b=m+1
 b11:n.k=11→pe.kd L a=n.op∧D (kd n 0) (kp n 0 p) (a+1) b
 b12:n.k=12→∃m,D (kd n 0) (kp n 0 p) a m∧((n.op=99∧D (kd n 1) (kp n 1 p) m b)∨(¬n.op=99∧pe.kd L m=n.op∧D (kd n 1) (kp n 1 p) (behind L n.op m) b))
 b13:n.k=13→(n.kids.length=1→∃m,D (kd n 0) (kp n 0 p) a m∧pe.kd L m=24∧pe.kd L (m+1)=6∧tx L (m+1)=n.s∧b=m+2)∧(1<n.kids.length→∃m,Br L D n.kids 32 33 a m∧pe.kd L m=24∧pe.kd L (m+1)=6∧tx L (m+1)=n.s∧b=m+2)
 b14:n.k=14→∃m m',D (kd n 0) (kp n 0 p) a m∧pe.kd L m=65∧D (kd n 1) (kp n 1 p) (m+1) m'∧pe.kd L m'=66∧D (kd n 2) (kp n 2 p) (m'+1) b
 b15:n.k=15→∃m,V (kd n 0) (kp n 0 p) a m∧pe.kd L m=n.op∧D (kd n 1) (kp n 1 p) (m+1) b
def Pr(U:Nat→Ps→Nat→Nat→Prop)(i:Nat):Nat→Nat→Nat→Prop
 |0,a,b=>U i top a b
 |m+1,a,b=>pe.kd L a=32∧∃c,Pr U i m (a+1) c∧pe.kd L c=33∧b=c+1
def Dv(U:Nat→Ps→Nat→Nat→Prop)(i:Nat)(p:Ps)(a b:Nat):Prop:=a<b∧b≤L.length∧((ft (l.getD i default).k (l.getD i default).op p=true∧U i p a b)∨∃m,Pr L U i (m+1) a b)
def Un:Nat→Nat→Ps→Nat→Nat→Prop
 |0,_,_,_,_=>False
 |f+1,i,p,a,b=>a<b∧b≤L.length∧Bd L (Dv L l (Un f)) (Un f) (l.getD i default) p a b
end
def cl(c:Int):Int:=levelOf (ctK c) (ctO c)
def Fol(c:Int)(p:Ps):Prop:=cl c<p.l∨(p.i=true∧ctK c=13)∨(p.g=true∧ctK c=12∧ctO c=62)
theorem ctK_in(c:Int):ctK c=15∨ctK c=10∨ctK c=14∨ctK c=13∨ctK c=12∨ctK c=0:=by
 unfold ctK
 repeat' split
 all_goals simp
theorem Fol.no{c:Int}{p:Ps}(h:Fol c p):ft (ctK c) (ctO c) p=false:=by
 have h9:(ctK c==9)=false:=by rw[beq_eq_false_iff_ne];have:=ctK_in c;omega
 unfold ft fits
 rcases h with h|⟨h1,h2⟩|⟨h1,h2,h3⟩
 ·unfold cl at h
  rw[h9,decide_eq_false (show¬p.l≤levelOf (ctK c) (ctO c) by omega)]
  simp
 ·simp[forb,h1,h2]
 ·simp[forb,h1,h2,h3]
theorem Fol.stop{c:Int}{p:Ps}(h:Fol c p)(lv:Int)(tg:Bool):goes c lv tg p=false:=by unfold goes;rw[h.no];rfl
theorem bin_lv{op:Int}(h:rt.isBin op=true):(opLevel op=3∨opLevel op=4∨opLevel op=6∨opLevel op=7∨opLevel op=8∨opLevel op=9∨opLevel op=10∨opLevel op=12)∧(opLevel op=8→op=99)∧(op=99→opLevel op=8)∧(¬op=99→ctK op=12∧ctO op=op∧isAsg op=false∧isInc op=false∧¬op=65∧¬op=24∧begins op=false):=by
 simp only[rt.isBin,Bool.or_eq_true,beq_iff_eq]at h
 rcases h with (((((((((((((((h|h)|h)|h)|h)|h)|h)|h)|h)|h)|h)|h)|h)|h)|h)|h)|h<;>subst h<;>decide
theorem cl_le(c:Int):cl c≤10∨cl c=12∨cl c=13:=by
 unfold cl
 rcases ctK_in c with h|h|h|h|h|h<;>rw[h]
 ·simp[levelOf]
 ·simp[levelOf]
 ·simp[levelOf]
 ·simp[levelOf]
 ·have e:levelOf 12 (ctO c)=opLevel (ctO c):=by simp[levelOf]
  rw[e]
  unfold opLevel
  repeat' split
  all_goals decide
 ·simp[levelOf]
def Sf(n:Nd)(p:Ps)(c:Int):Prop:=(n.k=6∨n.k=9∨n.k=11→Fol c (kp n 0 p))∧(n.k=12∨n.k=15→Fol c (kp n 1 p))∧(n.k=14→Fol c (kp n 2 p))
theorem ft_lev{k op:Int}{p:Ps}(h:ft k op p=true):posOk p.l p.d=true∧forb k op p.i p.g p.s=false∧((p.d=true∧k=9)∨p.l≤levelOf k op):=by
 unfold ft fits at h
 simp at h
 exact⟨h.1.1.1,h.1.2,h.2⟩
theorem pos_range{L:Int}{d:Bool}(h:posOk L d=true):1≤L∧L≤15∧(d=true→L=14):=by
 simp[posOk,chars.inR]at h
 refine⟨h.1.1,h.1.2,fun e=> ?_⟩
 rcases h.2 with h2|h2
 ·rw[e]at h2;cases h2
 ·exact h2
theorem kid_eq{k op:Int}{cnt:Nat}{K:Int}{p:Ps}(hp:posOk p.l p.d=true)(h1:0≤K)(h2:K<(cnt:Int))(h0:¬levelOf k op=0)(hb:brk k op cnt=false):kidI k op cnt K p.l p.d p.i p.g p.s=⟨if K=0 then(lvls k op).1 else(lvls k op).2,k==6,p.i,p.g,nsI k op K p.s⟩:=by
 unfold kidI
 rw[if_pos ⟨hp,h1,h2,h0⟩,hb]
 simp
def Open(n:Nd):Prop:=n.k=6∨n.k=9∨n.k=10∨n.k=11∨n.k=12∨n.k=14∨n.k=15∨(n.k=13∧n.kids.length=1)
theorem Open.brk{n:Nd}(h:Open n)(ho:rt.opOk n.k n.op=true){cnt:Nat}(hc:n.k=13→cnt=1):brk n.k n.op cnt=false∧¬levelOf n.k n.op=0:=by
 rcases h with h|h|h|h|h|h|h|⟨h,-⟩
 case inr.inr.inr.inr.inl=>
  rw[h]at ho⊢
  have hv:=(bin_lv (by simpa [rt.opOk]using ho)).1
  have e:levelOf 12 n.op=opLevel n.op:=by simp[levelOf]
  unfold ps.brk
  rw[e]
  refine⟨?_,by omega⟩
  rw[show(opLevel n.op==15)=false by rw[beq_eq_false_iff_ne];omega]
  rfl
 case inr.inr.inr.inr.inr.inr.inr=>simp[ps.brk,levelOf,h,hc h]
 all_goals simp[ps.brk,levelOf,h]
theorem kp_at{n:Nd}{K:Int}{p:Ps}(hp:posOk p.l p.d=true)(hK:0≤K∧K<(n.kids.length:Int))(ho:rt.opOk n.k n.op=true)(h:Open n):kp n K p=⟨if K=0 then(lvls n.k n.op).1 else(lvls n.k n.op).2,n.k==6,p.i,p.g,nsI n.k n.op K p.s⟩:=by
 have hc:n.k=13→n.kids.length=1:=fun e=>by rcases h with h|h|h|h|h|h|h|⟨-,h⟩<;>first|omega|exact h
 obtain⟨h1,h2⟩:=h.brk ho hc
 exact kid_eq hp hK.1 hK.2 h2 h1
theorem kq_at{n:Nd}{K:Int}{cnt:Nat}{p:Ps}(hp:posOk p.l p.d=true)(hK:0≤K∧K<(cnt:Int))(ho:rt.opOk n.k n.op=true)(h:Open n)(hc:n.k=13→cnt=1):kq n.k n.op cnt K p=⟨if K=0 then(lvls n.k n.op).1 else(lvls n.k n.op).2,n.k==6,p.i,p.g,nsI n.k n.op K p.s⟩:=by
 obtain⟨h1,h2⟩:=h.brk ho hc
 exact kid_eq hp hK.1 hK.2 h2 h1
theorem bin_tab{n:Nd}(h:n.k=12)(ho:rt.opOk n.k n.op=true):∃v x y:Int,levelOf n.k n.op=v∧lvls n.k n.op=(x,y)∧((v=3∧x=3∧y=4)∨(v=4∧x=4∧y=5)∨(v=6∧x=7∧y=7)∨(v=7∧x=8∧y=8)∨(v=8∧x=8∧y=9)∨(v=9∧x=9∧y=10)∨(v=10∧x=10∧y=11)∨(v=12∧x=13∧y=11)):=by
 rw[h]at ho
 have hv:=(bin_lv (by simpa [rt.opOk]using ho)).1
 refine⟨opLevel n.op,(sdI (opLevel n.op)).1,(sdI (opLevel n.op)).2,by simp[levelOf,h],by simp[lvls,h], ?_⟩
 rcases hv with h|h|h|h|h|h|h|h<;>rw[h]<;>decide
theorem tab{n:Nd}(h:Open n)(ho:rt.opOk n.k n.op=true):∃v x y:Int,levelOf n.k n.op=v∧lvls n.k n.op=(x,y)∧((n.k=6∧v=14∧x=14∧y=14)∨(n.k=9∧v=13∧x=14∧y=14)∨(n.k=10∧v=13∧x=14∧y=14)∨(n.k=11∧v=11∧x=11∧y=11)∨(n.k=13∧v=5∧x=5∧y=5)∨(n.k=14∧v=2∧x=3∧y=2)∨(n.k=15∧v=1∧x=14∧y=1)∨(n.k=12∧((v=3∧x=3∧y=4)∨(v=4∧x=4∧y=5)∨(v=6∧x=7∧y=7)∨(v=7∧x=8∧y=8)∨(v=8∧x=8∧y=9)∨(v=9∧x=9∧y=10)∨(v=10∧x=10∧y=11)∨(v=12∧x=13∧y=11)))):=by
 rcases h with h|h|h|h|h|h|h|⟨h,-⟩
 case inr.inr.inr.inr.inl=>
  obtain⟨v,x,y,h1,h2,h3⟩:=bin_tab h ho
  exact⟨v,x,y,h1,h2,by simp[h,h3]⟩
 all_goals exact⟨levelOf n.k n.op,(lvls n.k n.op).1,(lvls n.k n.op).2,rfl,rfl,by simp[levelOf,lvls,h]⟩
theorem Fol.down{n:Nd}{p:Ps}{c:Int}(ho:rt.opOk n.k n.op=true)(h1:n.k=6∨n.k=9∨n.k=11→0<n.kids.length)(h2:n.k=12∨n.k=15→1<n.kids.length)(h3:n.k=14→2<n.kids.length)(hf:ft n.k n.op p=true)(hF:Fol c p):Sf n p c:=by
 obtain⟨f1,f2,f3⟩:=ft_lev hf
 obtain⟨r1,r2,r3⟩:=pos_range f1
 have hc:=cl_le c
 refine⟨fun h=> ?_,fun h=> ?_,fun h=> ?_⟩
 ·have hO:Open n:=by unfold Open;omega
  rw[kp_at f1 ⟨by decide,by have:=h1 h;omega⟩ ho hO]
  obtain⟨v,x,y,t1,t2,t3⟩:=tab hO ho
  rcases hF with e|e|e
  ·refine .inl ?_
   simp only[t2]
   rw[t1]at f3
   simp
   rcases f3 with ⟨-,f3⟩|f3<;>omega
  ·exact .inr (.inl e)
  ·exact .inr (.inr e)
 ·have hO:Open n:=by unfold Open;omega
  rw[kp_at f1 ⟨by decide,by have:=h2 h;omega⟩ ho hO]
  obtain⟨v,x,y,t1,t2,t3⟩:=tab hO ho
  rcases hF with e|e|e
  ·refine .inl ?_
   simp only[t2]
   rw[t1]at f3
   simp
   rcases f3 with ⟨-,f3⟩|f3<;>omega
  ·exact .inr (.inl e)
  ·exact .inr (.inr e)
 ·have hO:Open n:=by unfold Open;omega
  rw[kp_at f1 ⟨by decide,by have:=h3 h;omega⟩ ho hO]
  obtain⟨v,x,y,t1,t2,t3⟩:=tab hO ho
  rcases hF with e|e|e
  ·refine .inl ?_
   simp only[t2]
   rw[t1]at f3
   simp
   rcases f3 with ⟨-,f3⟩|f3<;>omega
  ·exact .inr (.inl e)
  ·exact .inr (.inr e)
def Left(n:Nd):Prop:=n.k=10∨n.k=12∨n.k=14∨n.k=15∨(n.k=13∧n.kids.length=1)
theorem Left.open{n:Nd}(h:Left n):Open n:=by unfold Left at h;unfold Open;omega
theorem safe_left{n y:Nd}{p:Ps}{c:Int}(hL:Left n)(hk:0<n.kids.length)(hp:posOk p.l p.d=true)(ho:rt.opOk n.k n.op=true)(oy:rt.opOk y.k y.op=true)(h1:y.k=6∨y.k=9∨y.k=11→0<y.kids.length)(h2:y.k=12∨y.k=15→1<y.kids.length)(h3:y.k=14→2<y.kids.length)(hf:ft y.k y.op (kp n 0 p)=true)(c1:ctK c=n.k)(c2:ctO c=n.op):Sf y (kp n 0 p) c:=by
 have hcl:cl c=levelOf n.k n.op:=by unfold cl;rw[c1,c2]
 obtain⟨v,x,z,t1,t2,t3⟩:=tab hL.open ho
 have hkp:=kp_at (K:=0) hp ⟨by decide,by omega⟩ ho hL.open
 obtain⟨q,hq⟩:∃q,kp n 0 p=q:=⟨_,rfl⟩
 rw[hq]at hf hkp⊢
 obtain⟨f1,f2,f3⟩:=ft_lev hf
 have hd:q.d=false:=by
  rw[hkp]
  show(n.k==6)=false
  rw[beq_eq_false_iff_ne]
  unfold Left at hL;omega
 have hl:q.l=x:=by rw[hkp];simp[t2]
 rw[hd]at f3
 simp only[Bool.false_eq_true,false_and,false_or]at f3
 rw[t1]at hcl
 unfold Left at hL
 refine⟨fun h=> ?_,fun h=> ?_,fun h=> ?_⟩
 ·have hO:Open y:=by unfold Open;omega
  rw[kp_at f1 ⟨by decide,by have:=h1 h;omega⟩ oy hO]
  obtain⟨v',x',y',e,j,F⟩:=tab hO oy
  refine .inl ?_
  simp only[j]
  rw[e]at f3
  simp
  omega
 ·have hO:Open y:=by unfold Open;omega
  rw[kp_at f1 ⟨by decide,by have:=h2 h;omega⟩ oy hO]
  obtain⟨v',x',y',e,j,F⟩:=tab hO oy
  refine .inl ?_
  simp only[j]
  rw[e]at f3
  simp
  omega
 ·have hO:Open y:=by unfold Open;omega
  rw[kp_at f1 ⟨by decide,by have:=h3 h;omega⟩ oy hO]
  obtain⟨v',x',y',e,j,F⟩:=tab hO oy
  refine .inl ?_
  simp only[j]
  rw[e]at f3
  simp
  omega
theorem left_fits{n y:Nd}{p p0:Ps}(hL:Left n)(hk:0<n.kids.length)(ho:rt.opOk n.k n.op=true)(hp:posOk p.l p.d=true)(hf:ft y.k y.op (kp n 0 p)=true)(h0:ft n.k n.op p0=true)(hi:p.i=p0.i)(hg:p.g=p0.g)(hs:p.s=p0.s∨isLval y.k=true)(h10:n.k=10→isLval y.k=true):ft y.k y.op p0=true:=by
 obtain⟨v,x,z,t1,t2,t3⟩:=tab hL.open ho
 have hkp:=kp_at (K:=0) hp ⟨by decide,by omega⟩ ho hL.open
 obtain⟨q,hq⟩:∃q,kp n 0 p=q:=⟨_,rfl⟩
 rw[hq]at hf hkp
 obtain⟨f1,f2,f3⟩:=ft_lev hf
 obtain⟨g1,g2,g3⟩:=ft_lev h0
 have hd:q.d=false:=by
  rw[hkp]
  show(n.k==6)=false
  rw[beq_eq_false_iff_ne]
  unfold Left at hL;omega
 have hl:q.l=x:=by rw[hkp];simp[t2]
 rw[hd]at f3
 simp only[Bool.false_eq_true,false_and,false_or]at f3
 obtain⟨r1,r2,r3⟩:=pos_range g1
 have hlv:p0.l≤levelOf y.k y.op:=by
  unfold Left at hL
  rw[t1]at g3
  rcases g3 with ⟨-,g3⟩|g3<;>omega
 have hne:¬levelOf y.k y.op=0:=by omega
 have hfb:forb y.k y.op p0.i p0.g p0.s=false:=by
  have e1:q.i=p0.i:=by rw[hkp];exact hi
  have e2:q.g=p0.g:=by rw[hkp];exact hg
  rw[e1,e2]at f2
  by_cases hv:isLval y.k=true
  ·have:y.k=1∨y.k=5∨y.k=6:=by
    simp only[isLval,Bool.or_eq_true,beq_iff_eq]at hv;omega
   rcases this with h|h|h<;>simp[forb,h]
  ·have e3:p.s=p0.s:=hs.resolve_right hv
   have e:¬n.k=10:=fun h=>hv (h10 h)
   have e4:q.s=p0.s:=by
    rw[hkp]
    show nsI n.k n.op 0 p.s=p0.s
    unfold nsI
    unfold Left at hL
    rw[if_neg (by omega),if_neg (by omega)]
    simpa using e3
   rw[e4]at f2
   exact f2
 unfold ft fits
 rw[g1,hfb,decide_eq_true hlv]
 simp[hne]
section
variable {L:List Tk} {l:List Nd}
def Rch(L:List Tk)(g:Nat)(p0:Ps)(a:Nat)(lv:Int)(tg:Bool)(t:List Nd)(b k:Nat):Prop:=
 (∃lv1 tg1 t1 j1,first (pe.ex L g) L p0 a= .ok lv1 tg1 t1 j1∧∀G,go (pe.ex L g) L p0 (G+k) lv1 tg1 t1 j1=go (pe.ex L g) L p0 G lv tg t b)∧a+k<b∧b≤L.length
theorem Rch.one{g:Nat}{p0:Ps}{a:Nat}{lv:Int}{tg:Bool}{t:List Nd}{b:Nat}(h:first (pe.ex L g) L p0 a= .ok lv tg t b)(h1:a<b)(h2:b≤L.length):Rch L g p0 a lv tg t b 0:=⟨⟨lv,tg,t,b,h,fun _=>rfl⟩,h1,h2⟩
theorem Rch.next{g:Nat}{p0:Ps}{a:Nat}{lv lv':Int}{tg tg':Bool}{t t':List Nd}{m b k:Nat}(h:Rch L g p0 a lv tg t m k)(hg:goes (pe.kd L m) lv tg p0=true)(hs:pe.step (pe.ex L g) L (pe.kd L m) p0 t m= .ok lv' tg' t' b)(h1:m<b)(h2:b≤L.length):Rch L g p0 a lv' tg' t' b (k+1):=by
 obtain⟨⟨e,j,t1,j1,f1,f2⟩,f3,f4⟩:=h
 refine⟨⟨e,j,t1,j1,f1,fun G=> ?_⟩,by omega,h2⟩
 rw[show G+(k+1)=(G+1)+k by omega,f2]
 show(if goes (pe.kd L m) lv tg p0=true then _ else _)=_
 rw[if_pos hg,hs]
theorem Rch.ex{g:Nat}{p0:Ps}{a:Nat}{lv:Int}{tg:Bool}{t:List Nd}{b k:Nat}(h:Rch L g p0 a lv tg t b k)(hn:goes (pe.kd L b) lv tg p0=false):pe.ex L (g+1) p0 a= .ok lv tg t b:=by
 obtain⟨⟨e,y,t1,j1,f1,f2⟩,f3,f4⟩:=h
 show(match first (pe.ex L g) L p0 a with| .bad j=>R.bad j| .ok lv tg t j=>go (pe.ex L g) L p0 (L.length+1) lv tg t j)=_
 rw[f1]
 show go (pe.ex L g) L p0 (L.length+1) e y t1 j1=_
 rw[show L.length+1=(L.length-k+1)+k by omega,f2]
 show(if goes (pe.kd L b) lv tg p0=true then _ else _)=_
 rw[if_neg (by rw[hn];simp)]
theorem Pr.lt{U:Nat→Ps→Nat→Nat→Prop}{i:Nat}(hU:∀a b,U i top a b→a<b∧b≤L.length):∀m a b,Pr L U i m a b→a<b∧b≤L.length:=by
 intro m
 induction m with
 |zero=>exact hU
 |succ m ih=>
  rintro a b ⟨-,c,h1,h2,rfl⟩
  have:=ih _ _ h1
  have:=pe.kd_lt (l:=L) (i:=c) (by rw[h2];omega)
  omega
theorem Un.lt{f i:Nat}{p:Ps}{a b:Nat}(h:Un L l f i p a b):a<b∧b≤L.length:=by
 cases f with
 |zero=>cases h
 |succ f=>exact⟨h.1,h.2.1⟩
theorem fol_close{c:Int}{p:Ps}(hp:1≤p.l)(h:ctK c=0):Fol c p:=by
 refine .inl ?_
 unfold cl
 rw[h]
 show levelOf 0 (ctO c)<p.l
 simp[levelOf];omega
def SP(L:List Tk)(l:List Nd)(f:Nat):Prop:=
 ∀i p p0 g a b,i<l.length→isExpr (l.getD i default).k=true→ft (l.getD i default).k (l.getD i default).op p=true→ft (l.getD i default).k (l.getD i default).op p0=true→p.i=p0.i→p.g=p0.g→(p.s=p0.s∨isLval (l.getD i default).k=true)→Un L l f i p a b→Sf (l.getD i default) p (pe.kd L b)→¬pe.kd L b=34→b≤a+g+1→
  ∃k,Rch L g p0 a (levelOf (l.getD i default).k (l.getD i default).op) (isLval (l.getD i default).k) (sub l i) b k
theorem ft_top{k op:Int}(h:isExpr k=true)(h0:¬levelOf k op=0):ft k op top=true:=by
 unfold ft fits
 have:(1:Int)≤levelOf k op:=by
  have hv:=lv.lev_range op
  unfold levelOf at h0⊢
  repeat' split
  all_goals first|omega|(simp_all;done)|(simp_all;omega)
 simp[top,posOk,chars.inR,forb,h0,this]
theorem kids_of{i:Nat}{n:Nd}(h:et.Good l i n):(n.k=6∨n.k=9∨n.k=11→0<n.kids.length)∧(n.k=12∨n.k=15→1<n.kids.length)∧(n.k=14→2<n.kids.length):=
 ⟨fun e=>by rw[h.one (by omega)];exact Nat.one_pos,fun e=>by rw[h.two e];exact Nat.one_lt_two,fun e=>by rw[h.three e];omega⟩
theorem group_one{E:Ps→Nat→R}{p0:Ps}{a c:Nat}{lv:Int}{tg:Bool}{t:List Nd}(h1:pe.kd L a=32)(hE:E top (a+1)= .ok lv tg t c)(h3:pe.kd L c=33):first E L p0 a= .ok 15 false t (c+1):=by
 have hm:∃m,pe.many p0=m+1:=by unfold pe.many;split<;>exact⟨_,rfl⟩
 obtain⟨m,hm⟩:=hm
 have he:els E L (pe.many p0) (pe.many p0) [] (a+1)= .ok [t] c:=by
  rw[hm]
  show(match E top (a+1)with| .bad j=>P.bad j| .ok _ _ t j=>if([]:List (List Nd)).length+1=m+1∨¬pe.kd L j=36 then .ok ([]++[t]) j else els E L (m+1) m ([]++[t]) (sk L (j+1)))=_
  rw[hE]
  show(if([]:List (List Nd)).length+1=m+1∨¬pe.kd L c=36 then _ else _)=_
  rw[if_pos (Or.inr (by omega))]
  rfl
 unfold first
 rw[if_pos h1]
 unfold pe.group
 rw[he]
 show(if pe.kd L c=33 then _ else _)=_
 rw[if_pos h3]
 rfl
theorem exU(ht:treeOk l=true){f:Nat}(hS:SP L l f){i:Nat}(hi:i<l.length)(hk:isExpr (l.getD i default).k=true){p:Ps}{g a b:Nat}(hf:ft (l.getD i default).k (l.getD i default).op p=true)(hU:Un L l f i p a b)(hF:Fol (pe.kd L b) p)(h34:¬pe.kd L b=34)(hb:b≤a+g):∃lv tg,pe.ex L g p a= .ok lv tg (sub l i) b:=by
 obtain⟨l1,l2⟩:=hU.lt
 obtain⟨g,rfl⟩:∃g',g=g'+1:=⟨g-1,by omega⟩
 have hG:=et.Good.at ht hi rfl hk
 obtain⟨-,-,-,ho,-⟩:=flds ht hi rfl hk
 obtain⟨k1,k2,k3⟩:=kids_of hG
 obtain⟨k,hr⟩:=hS i p p g a b hi hk hf hf rfl rfl (.inl rfl) hU (Fol.down ho k1 k2 k3 hf hF) h34 (by omega)
 exact⟨_,_,hr.ex (hF.stop _ _)⟩
theorem fol33:Fol 33 top:=fol_close (by decide) (by decide)
theorem pr_ok(ht:treeOk l=true){f:Nat}(hS:SP L l f){i:Nat}(hi:i<l.length)(hk:isExpr (l.getD i default).k=true):∀m p0 g a b,Pr L (Un L l f) i (m+1) a b→b≤a+g+1→Rch L g p0 a 15 false (sub l i) b 0:=by
 have hft:=ft_top (op:=(l.getD i default).op) hk (et.level_some (et.Good.at ht hi rfl hk))
 intro m
 induction m with
 |zero=>
  rintro p0 g a b ⟨h1,c,h2,h3,rfl⟩ hb
  have h2:Un L l f i top (a+1) c:=h2
  obtain⟨l1,l2⟩:=h2.lt
  obtain⟨lv,tg,he⟩:=exU (g:=g) ht hS hi hk hft h2 (by rw[h3];exact fol33) (by omega) (by omega)
  exact Rch.one (group_one h1 he h3) (by omega) (pe.kd_lt (l:=L) (i:=c) (by omega))
 |succ m ih=>
  rintro p0 g a b ⟨h1,c,h2,h3,rfl⟩ hb
  obtain⟨l1,l2⟩:=Pr.lt (fun a b h=>Un.lt h) _ _ _ h2
  obtain⟨g,rfl⟩:∃g',g=g'+1:=⟨g-1,by omega⟩
  have he:=(ih top g (a+1) c h2 (by omega)).ex (by rw[h3];exact fol33.stop _ _)
  exact Rch.one (group_one h1 he h3) (by omega) (pe.kd_lt (l:=L) (i:=c) (by omega))
theorem exD(ht:treeOk l=true){f:Nat}(hS:SP L l f){i:Nat}(hi:i<l.length)(hk:isExpr (l.getD i default).k=true){p:Ps}{g a b:Nat}(hD:Dv L l (Un L l f) i p a b)(hF:Fol (pe.kd L b) p)(h34:¬pe.kd L b=34)(hb:b≤a+g):∃lv tg,pe.ex L g p a= .ok lv tg (sub l i) b:=by
 obtain⟨l1,l2,⟨hf,hU⟩|⟨m,hP⟩⟩:=hD
 ·exact exU ht hS hi hk hf hU hF h34 hb
 ·obtain⟨g,rfl⟩:∃g',g=g'+1:=⟨g-1,by omega⟩
  exact⟨_,_,(pr_ok ht hS hi hk m p g a b hP (by omega)).ex (hF.stop _ _)⟩
theorem lfD(ht:treeOk l=true){f:Nat}(hS:SP L l f){i:Nat}(hi:i<l.length)(hk:isExpr (l.getD i default).k=true){p p0:Ps}{g a b:Nat}(hp:p.l≤14)(hd:p.d=false)(hD:Dv L l (Un L l f) i p a b)(hy:ft (l.getD i default).k (l.getD i default).op p=true→ft (l.getD i default).k (l.getD i default).op p0=true∧Sf (l.getD i default) p (pe.kd L b))(ei:p.i=p0.i)(eg:p.g=p0.g)(es:p.s=p0.s∨isLval (l.getD i default).k=true)(h34:¬pe.kd L b=34)(hb:b≤a+g+1):∃lv tg k,Rch L g p0 a lv tg (sub l i) b k∧p.l≤lv:=by
 obtain⟨l1,l2,⟨hf,hU⟩|⟨m,hP⟩⟩:=hD
 ·obtain⟨y1,y2⟩:=hy hf
  obtain⟨k,hr⟩:=hS i p p0 g a b hi hk hf y1 ei eg es hU y2 h34 hb
  refine⟨_,_,k,hr, ?_⟩
  obtain⟨-,-,h3⟩:=ft_lev hf
  rw[hd]at h3
  simpa using h3
 ·exact⟨_,_,0,pr_ok ht hS hi hk m p0 g a b hP hb,by omega⟩
def hd(c:Int):Bool:=begins c||c==5||c==51||c==52||c==55||c==56||c==61
theorem hd_any(ht:treeOk l=true):∀f i p a b,i<l.length→isExpr (l.getD i default).k=true→Un L l f i p a b→hd (pe.kd L a)=true∧(isLval (l.getD i default).k=true→pe.kd L a=6∨pe.kd L a=68)∧(ft (l.getD i default).k (l.getD i default).op p=true→p.s=true→begins (pe.kd L a)=true):=by
 intro f
 induction f with
 |zero=>intro i p a b hi hk h;cases h
 |succ f ih=>
  intro i p a b hi hk h
  obtain⟨l1,l2,hB⟩:=h
  obtain⟨n,hn⟩:∃n,l.getD i default=n:=⟨_,rfl⟩
  rw[hn]at hk hB⊢
  have hG:=et.Good.at ht hi hn hk
  obtain⟨-,-,-,ho,-⟩:=flds ht hi hn hk
  have hr:=et.expr_range hk
  have hkid:∀j,j<n.kids.length→kd n j<l.length∧isExpr (l.getD (kd n j) default).k=true:=fun j hj=>⟨Nat.lt_trans (hG.kids j hj).1 hi,(hG.kids j hj).2.2⟩
  have hfst:0<n.kids.length→Left n→¬n.k=10→¬n.k=15→∀m,Dv L l (Un L l f) (kd n 0) (kp n 0 p) a m→hd (pe.kd L a)=true∧(ft n.k n.op p=true→p.s=true→begins (pe.kd L a)=true):=by
   intro h0 hL F G m hD
   obtain⟨-,-,⟨hf,hU⟩|⟨m,y,-⟩⟩:=hD
   ·obtain⟨i1,-,i3⟩:=ih _ _ _ _ (hkid 0 h0).1 (hkid 0 h0).2 hU
    refine⟨i1,fun hfp hs=>i3 hf ?_⟩
    rw[kp_at (ft_lev hfp).1 ⟨by decide,by omega⟩ ho hL.open]
    show nsI n.k n.op 0 p.s=true
    unfold nsI
    unfold Left at hL
    rw[if_neg (by omega),if_neg (by omega)]
    simpa using hs
   ·rw[y];exact⟨by decide,fun _ _=>by decide⟩
  have hlv:n.k=10∨n.k=15→0<n.kids.length→∀m,Un L l f (kd n 0) (kp n 0 p) a m→hd (pe.kd L a)=true∧begins (pe.kd L a)=true:=by
   intro h h0 m hU
   obtain⟨-,i2,-⟩:=ih _ _ _ _ (hkid 0 h0).1 (hkid 0 h0).2 hU
   rcases i2 (hG.lval (by omega))with e|e<;>rw[e]<;>decide
  have no:∀{Q:Prop},¬isLval n.k=true→isLval n.k=true→Q:=fun h h'=>absurd h' h
  have hcase:n.k=1∨n.k=2∨n.k=3∨n.k=4∨n.k=5∨n.k=6∨n.k=7∨n.k=8∨n.k=9∨n.k=10∨n.k=11∨n.k=12∨n.k=13∨n.k=14∨n.k=15:=by omega
  rcases hcase with h|h|h|h|h|h|h|h|h|h|h|h|h|h|h
  ·rw[(hB.b1 h).1];exact⟨by decide,fun _=> .inl rfl,fun _ _=>by decide⟩
  ·rw[(hB.b2 h).1];exact⟨by decide,no (by rw[h];decide),fun _ _=>by decide⟩
  ·rw[(hB.b3 h).1];exact⟨by decide,no (by rw[h];decide),fun _ _=>by decide⟩
  ·rw[(hB.b4 h).1];exact⟨by decide,no (by rw[h];decide),fun hf hs=>by have:=(ft_lev hf).2.1;simp[forb,hs,h]at this⟩
  ·rw[(hB.b5 h).1];exact⟨by decide,fun _=> .inl rfl,fun _ _=>by decide⟩
  ·rw[(hB.b6 h).1];exact⟨by decide,fun _=> .inr rfl,fun _ _=>by decide⟩
  ·rw[(hB.b7 h).1];exact⟨by decide,no (by rw[h];decide),fun _ _=>by decide⟩
  ·rw[(hB.b8 h).1];exact⟨by decide,no (by rw[h];decide),fun _ _=>by decide⟩
  ·rw[(hB.b9 h).1]
   refine⟨?_,no (by rw[h];decide),fun hf hs=>by have:=(ft_lev hf).2.1;simp[forb,hs,h]at this⟩
   rw[h]at ho
   have:n.op=51∨n.op=52:=by simpa [rt.opOk]using ho
   rcases this with e|e<;>rw[e]<;>decide
  ·obtain⟨m,hU,-⟩:=hB.b10 h
   have:=hlv (.inl h) (by rw[hG.one (by omega)];exact Nat.one_pos) m hU
   exact⟨this.1,no (by rw[h];decide),fun _ _=>this.2⟩
  ·rw[(hB.b11 h).1]
   refine⟨?_,no (by rw[h];decide),fun hf hs=>by have:=(ft_lev hf).2.1;simp[forb,hs,h]at this⟩
   rw[h]at ho
   have:n.op=55∨n.op=56∨n.op=61:=by simpa [rt.opOk,or_assoc]using ho
   rcases this with e|e|e<;>rw[e]<;>decide
  ·obtain⟨m,hD,-⟩:=hB.b12 h
   have:=hfst (by rw[hG.two (.inl h)];omega) (by unfold Left;omega) (by omega) (by omega) m hD
   exact⟨this.1,no (by rw[h];decide),this.2⟩
  ·by_cases h1:n.kids.length=1
   ·obtain⟨m,hD,-⟩:=(hB.b13 h).1 h1
    have:=hfst (by omega) (by unfold Left;omega) (by omega) (by omega) m hD
    exact⟨this.1,no (by rw[h];decide),this.2⟩
   ·obtain⟨m,⟨y,-⟩,-⟩:=(hB.b13 h).2 (by have:=hG.least (.inr h);omega)
    rw[y]
    exact⟨by decide,no (by rw[h];decide),fun _ _=>by decide⟩
  ·obtain⟨m,m',hD,-⟩:=hB.b14 h
   have:=hfst (by rw[hG.three h];omega) (by unfold Left;omega) (by omega) (by omega) m hD
   exact⟨this.1,no (by rw[h];decide),this.2⟩
  ·obtain⟨m,hU,-⟩:=hB.b15 h
   have:=hlv (.inr h) (by rw[hG.two (by omega)];omega) m hU
   exact⟨this.1,no (by rw[h];decide),fun _ _=>this.2⟩
theorem hd_dv(ht:treeOk l=true){f i:Nat}{p:Ps}{a b:Nat}(hi:i<l.length)(hk:isExpr (l.getD i default).k=true)(hD:Dv L l (Un L l f) i p a b):hd (pe.kd L a)=true∧(p.s=true→begins (pe.kd L a)=true):=by
 obtain⟨-,-,⟨hf,hU⟩|⟨m,e,-⟩⟩:=hD
 ·obtain⟨i1,-,i3⟩:=hd_any ht _ _ _ _ _ hi hk hU
  exact⟨i1,i3 hf⟩
 ·rw[e];exact⟨by decide,fun _=>by decide⟩
theorem Ls.lt{D:Nat→Ps→Nat→Nat→Prop}(hD:∀i p a b,D i p a b→a<b∧b≤L.length):∀r a b,r≠[]→Ls L D r a b→a<b∧b≤L.length:=by
 intro r
 induction r with
 |nil=>intro a b h;exact absurd rfl h
 |cons k r ih=>
  rintro a b-⟨m,h1,⟨-,rfl⟩|⟨h2,h3,h4⟩⟩
  ·exact hD _ _ _ _ h1
  ·have e1:=hD _ _ _ _ h1
   have e2:=ih _ _ h2 h4
   have e3:=pe.sk_le (l:=L) (i:=m+1) (pe.kd_lt (l:=L) (i:=m) (by omega))
   omega
theorem els_ok(ht:treeOk l=true){f:Nat}(hS:SP L l f){g mx:Nat}:∀r ps a b,r≠[]→(∀k∈r,k.toNat<l.length∧isExpr (l.getD k.toNat default).k=true)→Ls L (Dv L l (Un L l f)) r a b→ctK (pe.kd L b)=0→¬pe.kd L b=36→¬pe.kd L b=34→ps.length+r.length≤mx→b≤a+g→els (pe.ex L g) L mx (mx-ps.length) ps a= .ok (ps++r.map fun k=>sub l k.toNat) b:=by
 intro r
 induction r with
 |nil=>intro ps a b h;exact absurd rfl h
 |cons k r ih=>
  intro ps a b _ hr hL hc e y hl hb
  obtain⟨m,h1,h2⟩:=hL
  obtain⟨k1,k2⟩:=hr k (List.mem_cons_self ..)
  obtain⟨G,hG⟩:∃G,mx-ps.length=G+1:=⟨mx-ps.length-1,by simp at hl;omega⟩
  rw[hG]
  show(match pe.ex L g top a with| .bad j=>P.bad j| .ok _ _ t j=>if ps.length+1=mx∨¬pe.kd L j=36 then .ok (ps++[t]) j else els (pe.ex L g) L mx G (ps++[t]) (sk L (j+1)))=_
  rcases h2 with ⟨rfl,rfl⟩|⟨h2,h3,h4⟩
  ·obtain⟨lv,tg,he⟩:=exD ht hS k1 k2 h1 (fol_close (by decide) hc) y hb
   rw[he]
   show(if ps.length+1=mx∨¬pe.kd L b=36 then _ else _)=_
   rw[if_pos (Or.inr e)]
   rfl
  ·have e1:=h1.1
   have e3:=pe.sk_le (l:=L) (i:=m+1) (pe.kd_lt (l:=L) (i:=m) (by omega))
   have e2:=Ls.lt (L:=L) (fun i p a b h=>⟨h.1,h.2.1⟩) _ _ _ h2 h4
   obtain⟨lv,tg,he⟩:=exD (g:=g) ht hS k1 k2 h1 (fol_close (by decide) (by rw[h3];decide)) (by omega) (by omega)
   rw[he]
   have hrl:0<r.length:=List.length_pos_iff.2 h2
   show(if ps.length+1=mx∨¬pe.kd L m=36 then _ else _)=_
   rw[if_neg (by simp at hl;omega)]
   have:=ih (ps++[sub l k.toNat]) _ b h2 (fun x hx=>hr x (List.mem_cons_of_mem _ hx)) h4 hc e y (by simp at hl⊢;omega) (by omega)
   rw[show mx-(ps++[sub l k.toNat]).length=G by simp;omega]at this
   rw[this]
   simp
theorem bin_go{c lv:Int}{tg:Bool}{n:Nd}{p p0:Ps}(hL:Left n)(hk:0<n.kids.length)(ho:rt.opOk n.k n.op=true)(hp:posOk p.l p.d=true)(h0:ft n.k n.op p0=true)(c1:ctK c=n.k)(c2:ctO c=n.op)(hc:n.k=13→ctN c=1)(hc0:0<ctN c)(hl:¬n.k=10→¬n.k=15→(kp n 0 p).l≤lv)(ht:n.k=10∨n.k=15→tg=true):goes c lv tg p0=true:=by
 unfold goes may
 rw[c1,c2,h0]
 by_cases h:n.k=15∨n.k=10
 ·rw[if_pos h,ht h.symm];rfl
 ·rw[if_neg h]
  have h1:=kp_at (K:=0) hp ⟨by decide,by omega⟩ ho hL.open
  have h2:=kq_at (K:=0) (cnt:=ctN c) (p:=p0) (ft_lev h0).1 ⟨by decide,by omega⟩ ho hL.open hc
  have h3:=hl (by omega) (by omega)
  rw[h1]at h3
  have h4:kq n.k n.op (ctN c) 0 p0=_:=h2
  rw[h4,Bool.true_and,decide_eq_true]
  exact h3
theorem kq_kp{n:Nd}{K:Int}{cnt:Nat}{p p0:Ps}(hO:Open n)(ho:rt.opOk n.k n.op=true)(hp:posOk p.l p.d=true)(hp0:posOk p0.l p0.d=true)(hK:0≤K∧K<(n.kids.length:Int))(hK2:0≤K∧K<(cnt:Int))(hc:n.k=13→cnt=1)(ei:p.i=p0.i)(eg:p.g=p0.g)(hs:0<K∨n.k=6∨n.k=9∨n.k=11):kq n.k n.op cnt K p0=kp n K p:=by
 rw[kp_at hp hK ho hO,kq_at hp0 hK2 ho hO hc,ei,eg]
 have:nsI n.k n.op K p0.s=nsI n.k n.op K p.s:=by
  unfold nsI
  split
  ·rfl
  ·split
   ·rfl
   ·rw[show(K==0)=false by rw[beq_eq_false_iff_ne];omega]
    rfl
 rw[this]
theorem lval_ft{k op:Int}{q:Ps}(h:isLval k=true)(hp:posOk q.l q.d=true)(h14:q.l≤14):ft k op q=true:=by
 have:k=1∨k=5∨k=6:=by simp only[isLval,Bool.or_eq_true,beq_iff_eq]at h;omega
 unfold ft fits
 rw[hp]
 rcases this with h|h|h<;>subst h<;>simp[forb,levelOf]<;>omega
theorem kp_ok{n:Nd}{K:Int}{p:Ps}(hO:Open n)(ho:rt.opOk n.k n.op=true)(hp:posOk p.l p.d=true)(hK:0≤K∧K<(n.kids.length:Int)):posOk (kp n K p).l (kp n K p).d=true∧(kp n K p).l≤14∧1≤(kp n K p).l:=by
 rw[kp_at hp hK ho hO]
 obtain⟨v,x,y,t1,t2,t3⟩:=tab hO ho
 have h6:n.k=6∨(n.k==6)=false:=by
  by_cases h:n.k=6
  ·exact .inl h
  ·exact .inr (by rw[beq_eq_false_iff_ne];exact h)
 simp only[t2]
 rcases h6 with h6|h6
 ·have e1:x=14:=by omega
  have e2:y=14:=by omega
  subst e1 e2
  simp[posOk,chars.inR]
 ·rw[h6]
  split<;>simp[posOk,chars.inR]<;>omega
theorem two_kids{α:Type}{x:List α}(h:x.length=2):∃a b,x=[a,b]:=by
 match x,h with
 |[a,b],_=>exact⟨a,b,rfl⟩
theorem three_kids{α:Type}{x:List α}(h:x.length=3):∃a b c,x=[a,b,c]:=by
 match x,h with
 |[a,b,c],_=>exact⟨a,b,c,rfl⟩
theorem first_word{E:Ps→Nat→R}{p0:Ps}{a:Nat}{c:Int}(hc:pe.kd L a=c)(h32:¬c=32)(hf:ft (pe.bgK c) (pe.bgO c) p0=true):first E L p0 a=pe.bgR E L c p0 a:=by
 unfold first
 rw[hc,if_neg h32,if_pos hf]
theorem ft_prim{k op k':Int}{p0:Ps}(h:ft k op p0=true)(h1:levelOf k' 0=15)(h2:¬k'=4)(h3:levelOf k op=15):ft k' 0 p0=true:=by
 obtain⟨f1,f2,f3⟩:=ft_lev h
 obtain⟨r1,r2,r3⟩:=pos_range f1
 have hk':k'=1∨k'=2∨k'=3∨k'=5∨k'=7∨k'=8:=by
  unfold levelOf at h1
  have:=lv.lev_range 0
  repeat' split at h1
  all_goals omega
 unfold ft fits
 rw[f1,h1,decide_eq_true r2]
 rcases hk' with h|h|h|h|h|h<;>subst h<;>simp[forb]
theorem listed_ok(ht:treeOk l=true){f:Nat}(hS:SP L l f){g:Nat}{ks:List Int}{k x y:Int}{a b:Nat}(hx:¬x=0)(hy:(x=34∧y=35)∨(x=32∧y=33))(h6:ks.length≤6)(hne:ks=[]→y=33)(hr:∀k∈ks,k.toNat<l.length∧isExpr (l.getD k.toNat default).k=true)(hB:Br L (Dv L l (Un L l f)) ks x y (a+1) b)(hb:b≤a+g+1):pe.listed (pe.ex L g) L k x y a=fin k 0 (tx L a) (ks.map fun k=>sub l k.toNat) b:=by
 obtain⟨h1,m,h2,h3,rfl⟩:=hB
 unfold pe.listed
 rw[if_pos h1]
 by_cases hk:ks=[]
 ·subst hk
  have h2:a+1+1=m:=h2
  subst h2
  have:=hne rfl
  subst this
  rw[if_pos ⟨rfl,h3⟩]
  rfl
 ·have hhd:¬(y=33∧pe.kd L (a+2)=33):=by
   rintro⟨-,e⟩
   cases ks with
   |nil=>exact hk rfl
   |cons k0 r=>
    obtain⟨m',h4,-⟩:=h2
    have j:=hr k0 (List.mem_cons_self ..)
    have:=(hd_dv ht j.1 j.2 h4).1
    rw[show a+1+1=a+2 by omega,e]at this
    exact absurd this (by decide)
  rw[if_neg hhd]
  have:=els_ok (g:=g) (mx:=6) ht hS ks [] (a+2) m hk hr h2 (by rw[h3];rcases hy with ⟨-,rfl⟩|⟨-,rfl⟩<;>decide) (by omega) (by omega) (by simpa using h6) (by omega)
  simp only[List.length_nil,Nat.sub_zero,List.nil_append]at this
  rw[this]
  show(if pe.kd L m=y then _ else _)=_
  rw[if_pos h3]
theorem sp_succ(ht:treeOk l=true){f:Nat}(hS:SP L l f):SP L l (f+1):=by
 intro i p p0 g a b hi hk hfp G ei eg es hU hSf O hb
 obtain⟨l1,l2,hB⟩:=hU
 obtain⟨n,hn⟩:∃n,l.getD i default=n:=⟨_,rfl⟩
 rw[hn]at hk hfp G es hB hSf⊢
 have hG:=et.Good.at ht hi hn hk
 obtain⟨q1,q2,q3,ho,-,q4⟩:=flds ht hi hn hk
 have hmk:=sub_make ht hi hn hk
 have hr:=et.expr_range hk
 obtain⟨k1,k2,k3⟩:=kids_of hG
 have hpp:=(ft_lev hfp).1
 have P:=(ft_lev G).1
 have hkid:∀j,j<n.kids.length→kd n j<l.length∧isExpr (l.getD (kd n j) default).k=true:=fun j hj=>⟨Nat.lt_trans (hG.kids j hj).1 hi,(hG.kids j hj).2.2⟩
 have hks:∀k∈n.kids,k.toNat<l.length∧isExpr (l.getD k.toNat default).k=true:=fun k hk=>by
  obtain⟨j,hj,rfl⟩:=List.mem_iff_getElem.1 hk
  have:=hkid j hj
  unfold kd at this
  rw[List.getD_eq_getElem?_getD,List.getElem?_eq_getElem hj]at this
  exact this
 have hfin:∀s ps b,s=n.s→ps=n.kids.map (fun k=>sub l k.toNat)→fin n.k n.op s ps b= .ok (levelOf n.k n.op) (isLval n.k) (sub l i) b:=fun s ps b e1 e2=>by subst e1 e2;rw[hmk];rfl
 have one:∀{R},first (pe.ex L g) L p0 a=R→R= .ok (levelOf n.k n.op) (isLval n.k) (sub l i) b→∃k,Rch L g p0 a (levelOf n.k n.op) (isLval n.k) (sub l i) b k:=fun e1 e2=>⟨0,Rch.one (e1.trans e2) l1 l2⟩
 have hcase:n.k=1∨n.k=2∨n.k=3∨n.k=4∨n.k=5∨n.k=6∨n.k=7∨n.k=8∨n.k=9∨n.k=10∨n.k=11∨n.k=12∨n.k=13∨n.k=14∨n.k=15:=by omega
 have hleft:Left n→∀hK:0<n.kids.length,∀m,Dv L l (Un L l f) (kd n 0) (kp n 0 p) a m→ctK (pe.kd L m)=n.k→ctO (pe.kd L m)=n.op→¬n.k=10→¬n.k=15→¬pe.kd L m=34→m≤a+g+1→∃lv tg k,Rch L g p0 a lv tg (sub l (kd n 0)) m k∧(kp n 0 p).l≤lv:=by
  intro hL hK m hD c1 c2 ah ar Z hm
  obtain⟨y1,y2⟩:=hkid 0 hK
  have hGy:=et.Good.at ht y1 rfl y2
  obtain⟨-,-,-,oy,-⟩:=flds ht y1 rfl y2
  obtain⟨j1,j2,j3⟩:=kids_of hGy
  have hkp:=kp_at (K:=0) hpp (by omega) ho hL.open
  have e1:(kp n 0 p).i=p0.i:=by rw[hkp];exact ei
  have e2:(kp n 0 p).g=p0.g:=by rw[hkp];exact eg
  have hns:∀s,nsI n.k n.op 0 s=s:=fun s=>by
   unfold nsI
   unfold Left at hL
   rw[if_neg (by omega),if_neg (by omega)]
   rfl
  refine lfD ht hS y1 y2 (kp_ok hL.open ho hpp (by omega)).2.1 ?_ hD ?_ e1 e2 ?_ Z hm
  ·rw[hkp]
   show(n.k==6)=false
   rw[beq_eq_false_iff_ne]
   unfold Left at hL;omega
  ·intro hfy
   exact⟨left_fits hL hK ho hpp hfy G ei eg (.inl (es.resolve_right (fun h=>by
    simp only[isLval,Bool.or_eq_true,beq_iff_eq]at h
    unfold Left at hL;omega))) (fun h=>absurd h ah),safe_left hL hK hpp ho oy j1 j2 j3 hfy c1 c2⟩
  ·refine .inl ?_
   rw[hkp]
   show nsI n.k n.op 0 p.s=p0.s
   rw[hns]
   exact es.resolve_right (fun h=>by
    simp only[isLval,Bool.or_eq_true,beq_iff_eq]at h
    unfold Left at hL;omega)
 have htgt:n.k=10∨n.k=15→∀hK:0<n.kids.length,∀m,Un L l f (kd n 0) (kp n 0 p) a m→ctK (pe.kd L m)=n.k→ctO (pe.kd L m)=n.op→¬pe.kd L m=34→m≤a+g+1→∃lv k,Rch L g p0 a lv true (sub l (kd n 0)) m k:=by
  intro h hK m hU c1 c2 Z hm
  have hL:Left n:=by unfold Left;omega
  obtain⟨y1,y2⟩:=hkid 0 hK
  have hGy:=et.Good.at ht y1 rfl y2
  obtain⟨-,-,-,oy,-⟩:=flds ht y1 rfl y2
  obtain⟨j1,j2,j3⟩:=kids_of hGy
  have hv:=hG.lval (by omega)
  obtain⟨w1,w2,w3⟩:=kp_ok (K:=0) hL.open ho hpp (by omega)
  have hfy:=lval_ft (op:=(l.getD (kd n 0) default).op) hv w1 w2
  have hkp:=kp_at (K:=0) hpp (by omega) ho hL.open
  have e1:(kp n 0 p).i=p0.i:=by rw[hkp];exact ei
  have e2:(kp n 0 p).g=p0.g:=by rw[hkp];exact eg
  have ai:=left_fits hL hK ho hpp hfy G ei eg (.inr hv) (fun _=>hv)
  obtain⟨k,hr⟩:=hS _ _ _ g a m y1 y2 hfy ai e1 e2 (.inr hv) hU (safe_left hL hK hpp ho oy j1 j2 j3 hfy c1 c2) Z hm
  rw[hv]at hr
  exact⟨_,k,hr⟩
 rcases hcase with h|h|h|h|h|h|h|h|h|h|h|h|h|h|h
 ·obtain⟨c1,c2,rfl⟩:=hB.b1 h
  have F:=q2 (by simp[h])
  refine one (first_word c1 (by decide) (by rw[h,F]at G;exact G)) ?_
  rw[←hfin (tx L a) [] (a+1) c2 (by rw[q4 (by omega)];rfl),h,F]
  simp[pe.bgR,pe.word,O]
 ·obtain⟨c1,c2,rfl⟩:=hB.b2 h
  have F:=q2 (by simp[h])
  refine one (first_word c1 (by decide) (by rw[h,F]at G;exact G)) ?_
  rw[←hfin (tx L a) [] (a+1) c2 (by rw[q4 (by omega)];rfl),h,F]
  simp[pe.bgR,pe.word]
 ·obtain⟨c1,c2,rfl⟩:=hB.b3 h
  have F:=q2 (by simp[h])
  refine one (first_word c1 (by decide) (by rw[h,F]at G;exact G)) ?_
  rw[←hfin (tx L a) [] (a+1) c2 (by rw[q4 (by omega)];rfl),h,F]
  simp[pe.bgR,pe.word]
 ·obtain⟨c1,c2,rfl⟩:=hB.b4 h
  have F:=q2 (by simp[h])
  refine one (first_word c1 (by decide) (by rw[h,F]at G;exact G)) ?_
  rw[←hfin (tx L a) [] (a+1) c2 (by rw[q4 (by omega)];rfl),h,F]
  simp[pe.bgR,pe.word]
 ·obtain⟨c1,c2,hBr⟩:=hB.b5 h
  have F:=q2 (by simp[h])
  have an:pe.kd L (a+1)=34:=hBr.1
  have hne:n.kids≠[]:=fun e=>by have:=hG.least (.inl h);rw[e]at this;simp at this
  refine one (first_word c1 (by decide) (ft_prim (k':=1) G (by decide) (by decide) (by rw[h];rfl))) ?_
  rw[←hfin (tx L a) _ b c2 rfl,h,F]
  have:=listed_ok (k:=5) ht hS (by decide) (.inl ⟨rfl,rfl⟩) hG.most (fun e=>absurd e hne) hks hBr hb
  rw[←this]
  simp[pe.bgR,an]
 ·obtain⟨c1,hD⟩:=hB.b6 h
  have F:=q2 (by simp[h])
  have I:=q3 (by simp[h])
  have hK:=k1 (by omega)
  have hO:Open n:= .inl h
  have hq:=kq_kp (K:=0) (cnt:=1) hO ho hpp P (by omega) (by omega) (by omega) ei eg (by omega)
  obtain⟨lv,tg,he⟩:=exD (g:=g) ht hS (hkid 0 hK).1 (hkid 0 hK).2 hD (hSf.1 (by omega)) O (by omega)
  obtain⟨x,hx⟩:=List.length_eq_one_iff.1 (hG.one (by omega))
  refine one (first_word c1 (by decide) (by rw[h,F]at G;exact G)) ?_
  rw[←hfin ⟨#[]⟩ [sub l (kd n 0)] b I.symm (by rw[hx];simp[kd,hx]),h,F]
  rw[h,F]at hq
  show pe.pfx (pe.ex L g) 6 0 p0 a=_
  unfold pe.pfx
  have hq':kq 6 0 1 0 p0=kp n 0 p:=hq
  rw[hq',he]
 ·obtain⟨c1,c2,hBr⟩:=hB.b7 h
  have F:=q2 (by simp[h])
  refine one (first_word c1 (by decide) (by rw[h,F]at G;exact G)) ?_
  rw[←hfin (tx L a) _ b c2 rfl,h,F]
  rw[←listed_ok (k:=7) ht hS (by decide) (.inr ⟨rfl,rfl⟩) hG.most (fun _=>rfl) hks hBr hb]
  rfl
 ·obtain⟨c1,c2,hx⟩:=hB.b8 h
  have F:=q2 (by simp[h])
  refine one (first_word c1 (by decide) (by rw[h,F]at G;exact G)) ?_
  rw[←hfin (tx L a) _ b c2 rfl,h,F]
  rcases hx with ⟨x1,x2,x3,rfl⟩|hBr
  ·rw[x2]
   simp[pe.bgR,pe.word,c2,x1,x3]
  ·have X:pe.kd L (a+1)=32:=hBr.1
   rw[←listed_ok (k:=8) ht hS (by decide) (.inr ⟨rfl,rfl⟩) hG.most (fun _=>rfl) hks hBr hb]
   simp[pe.bgR,X]
 ·obtain⟨c1,hU⟩:=hB.b9 h
  have I:=q3 (by simp[h])
  have hK:=k1 (by omega)
  have hO:Open n:= .inr (.inl h)
  have hq:=kq_kp (K:=0) (cnt:=1) hO ho hpp P (by omega) (by omega) (by omega) ei eg (by omega)
  have hv:=hG.lval (by omega)
  obtain⟨w1,w2,w3⟩:=kp_ok (K:=0) hO ho hpp (by omega)
  have hfy:=lval_ft (op:=(l.getD (kd n 0) default).op) hv w1 w2
  obtain⟨lv,tg,he⟩:=exU (g:=g) ht hS (hkid 0 hK).1 (hkid 0 hK).2 hfy hU (hSf.1 (by omega)) O (by omega)
  have al:=(hd_any ht _ _ _ _ _ (hkid 0 hK).1 (hkid 0 hK).2 hU).2.1 hv
  obtain⟨x,hx⟩:=List.length_eq_one_iff.1 (hG.one (by omega))
  have hop:n.op=51∨n.op=52:=by rw[h]at ho;simpa [rt.opOk]using ho
  refine one (first_word c1 (by omega) (by rw[h]at G;rcases hop with e|e<;>rw[e]at G⊢<;>exact G)) ?_
  rw[←hfin ⟨#[]⟩ [sub l (kd n 0)] b I.symm (by rw[hx];simp[kd,hx])]
  have e:pe.bgR (pe.ex L g) L n.op p0 a=pe.pfx (pe.ex L g) 9 n.op p0 a:=by
   rcases hop with e|e<;>rw[e]<;>simp[pe.bgR,al]
  rw[e,←h]
  unfold pe.pfx
  have hq':kq n.k n.op 1 0 p0=kp n 0 p:=hq
  rw[hq',he]
 ·obtain⟨m,hU,hc,rfl⟩:=hB.b10 h
  have I:=q3 (by simp[h])
  have hK:0<n.kids.length:=by rw[hG.one (by omega)];exact Nat.one_pos
  obtain⟨x,hx⟩:=List.length_eq_one_iff.1 (hG.one (by omega))
  have hop:n.op=51∨n.op=52:=by rw[h]at ho;simpa [rt.opOk]using ho
  have hct:ctK n.op=10∧ctO n.op=n.op∧ctN n.op=1∧isAsg n.op=false∧isInc n.op=true:=by
   rcases hop with e|e<;>rw[e]<;>decide
  obtain⟨t1,t2,t3,t4,t5⟩:=hct
  obtain⟨lv,k,hr⟩:=htgt (.inl h) hK m hU (by rw[hc,t1,h]) (by rw[hc,t2]) (by omega) (by omega)
  refine⟨k+1,hr.next (bin_go (by unfold Left;omega) hK ho hpp G (by rw[hc,t1,h]) (by rw[hc,t2]) (by omega) (by rw[hc,t3];exact Nat.one_pos) (by omega) (fun _=>rfl)) ?_ (by omega) l2⟩
  rw[←hfin ⟨#[]⟩ [sub l (kd n 0)] _ I.symm (by rw[hx];simp[kd,hx]),hc,h]
  unfold pe.step
  rw[t4,t5]
  rfl
 ·obtain⟨c1,hD⟩:=hB.b11 h
  have I:=q3 (by simp[h])
  have hK:=k1 (by omega)
  have hO:Open n:=by unfold Open;omega
  have hq:=kq_kp (K:=0) (cnt:=1) hO ho hpp P (by omega) (by omega) (by omega) ei eg (by omega)
  obtain⟨lv,tg,he⟩:=exD (g:=g) ht hS (hkid 0 hK).1 (hkid 0 hK).2 hD (hSf.1 (by omega)) O (by omega)
  obtain⟨x,hx⟩:=List.length_eq_one_iff.1 (hG.one (by omega))
  have hop:n.op=55∨n.op=56∨n.op=61:=by rw[h]at ho;simpa [rt.opOk,or_assoc]using ho
  refine one (first_word c1 (by omega) (by rw[h]at G;rcases hop with e|e|e<;>rw[e]at G⊢<;>exact G)) ?_
  rw[←hfin ⟨#[]⟩ [sub l (kd n 0)] b I.symm (by rw[hx];simp[kd,hx])]
  have e:pe.bgR (pe.ex L g) L n.op p0 a=pe.pfx (pe.ex L g) 11 n.op p0 a:=by
   rcases hop with e|e|e<;>rw[e]<;>simp[pe.bgR]
  rw[e,←h]
  unfold pe.pfx
  have hq':kq n.k n.op 1 0 p0=kp n 0 p:=hq
  rw[hq',he]
 ·obtain⟨m,hD,hm⟩:=hB.b12 h
  have I:=q3 (by simp[h])
  have hlen:=hG.two (.inl h)
  have hK:0<n.kids.length:=by omega
  have hL:Left n:=by unfold Left;omega
  obtain⟨x,y,hxy⟩:=two_kids hlen
  have hbin:rt.isBin n.op=true:=by rw[h]at ho;simpa [rt.opOk]using ho
  obtain⟨-,-,-,ap⟩:=bin_lv hbin
  have hq:=kq_kp (K:=1) (cnt:=2) hL.open ho hpp P (by omega) (by omega) (by omega) ei eg (.inl (by decide))
  have hF:=hSf.2.1 (by omega)
  have hpair:fin n.k n.op ⟨#[]⟩ [sub l (kd n 0),sub l (kd n 1)] b= .ok (levelOf n.k n.op) (isLval n.k) (sub l i) b:=hfin _ _ _ I.symm (by rw[hxy];simp[kd,hxy])
  have hml:=hD.1
  have hmb:=hD.2.1
  rcases hm with ⟨h99,J⟩|⟨h99,hc,J⟩
  ·have hbg:=(hd_dv ht (hkid 1 (by omega)).1 (hkid 1 (by omega)).2 J).2 (by
    rw[kp_at hpp (by omega) ho hL.open]
    show nsI n.k n.op _ p.s=true
    unfold nsI
    rw[if_neg (by omega),if_pos ⟨h,rfl,h99⟩])
   have aj:=J.1
   have hcc:∀c,begins c=true→ctK c=12∧ctO c=99∧ctN c=2∧isAsg c=false∧isInc c=false∧¬c=65∧¬c=24∧¬c=34:=by
    intro c hc
    simp only[begins,Bool.or_eq_true,beq_iff_eq]at hc
    rcases hc with (((((e|e)|e)|e)|e)|e)|e<;>subst e<;>decide
   obtain⟨t1,t2,t3,t4,t5,t6,t7,t8⟩:=hcc _ hbg
   obtain⟨lv,tg,k,hr,hlv⟩:=hleft hL hK m hD (by rw[t1,h]) (by rw[t2,h99]) (by omega) (by omega) t8 (by omega)
   obtain⟨Y,V,he⟩:=exD (g:=g) ht hS (hkid 1 (by omega)).1 (hkid 1 (by omega)).2 J hF O (by omega)
   refine⟨k+1,hr.next (bin_go hL hK ho hpp G (by rw[t1,h]) (by rw[t2,h99]) (by omega) (by rw[t3];exact Nat.two_pos) (fun _ _=>hlv) (by omega)) ?_ (by omega) l2⟩
   rw[←hpair]
   unfold pe.step
   rw[t4,t5,if_neg (by decide),if_neg (by decide),if_neg t6,if_neg t7,if_pos hbg]
   unfold pe.rd2
   rw[h,h99]at hq⊢
   have hq':kq 12 99 2 1 p0=kp n 1 p:=hq
   rw[hq',he]
  ·obtain⟨t1,t2,t4,t5,t6,t7,t8⟩:=ap h99
   have t3:ctN n.op=2:=by unfold ctN;rw[t4,t5,if_neg (by decide),if_neg (by decide),if_neg t6,if_neg t7]
   have aj:=J.1
   have af:=pe.kd_lt (l:=L) (i:=m) (by rw[hc];intro e;rw[e]at hbin;exact absurd hbin (by decide))
   have hbh:m+1≤behind L n.op m:=by
    unfold behind
    split
    ·exact(pe.sk_le af).1
    ·omega
   have aq:¬pe.kd L m=34:=by rw[hc];intro e;rw[e]at hbin;exact absurd hbin (by decide)
   obtain⟨lv,tg,k,hr,hlv⟩:=hleft hL hK m hD (by rw[hc,t1,h]) (by rw[hc,t2]) (by omega) (by omega) aq (by omega)
   obtain⟨Y,V,he⟩:=exD (g:=g) ht hS (hkid 1 (by omega)).1 (hkid 1 (by omega)).2 J hF O (by omega)
   refine⟨k+1,hr.next (bin_go hL hK ho hpp G (by rw[hc,t1,h]) (by rw[hc,t2]) (by omega) (by rw[hc,t3];exact Nat.two_pos) (fun _ _=>hlv) (by omega)) ?_ (by omega) l2⟩
   rw[←hpair]
   unfold pe.step
   rw[hc,t4,t5,if_neg (by decide),if_neg (by decide),if_neg t6,if_neg t7,t8,if_neg (by decide)]
   unfold pe.rd2
   rw[h]at hq⊢
   have hq':kq 12 n.op 2 1 p0=kp n 1 p:=hq
   rw[hq',he]
 ·have F:=q2 (by simp[h])
  by_cases h1:n.kids.length=1
  ·obtain⟨m,hD,hc,h6,hs,rfl⟩:=(hB.b13 h).1 h1
   obtain⟨x,hx⟩:=List.length_eq_one_iff.1 h1
   have hL:Left n:=by unfold Left;omega
   have hml:=hD.1
   obtain⟨lv,tg,k,hr,hlv⟩:=hleft hL (by omega) m hD (by rw[hc,h];decide) (by rw[hc,F];decide) (by omega) (by omega) (by omega) (by omega)
   refine⟨k+1,hr.next (bin_go hL (by omega) ho hpp G (by rw[hc,h];decide) (by rw[hc,F];decide) (fun _=>by rw[hc];decide) (by rw[hc];decide) (fun _ _=>hlv) (by omega)) ?_ (by omega) l2⟩
   rw[←hfin (tx L (m+1)) [sub l (kd n 0)] _ hs (by rw[hx];simp[kd,hx]),h,F]
   rw[hc]
   show pe.inn L [sub l (kd n 0)] m=_
   unfold pe.inn
   rw[if_pos hc,if_pos h6]
  ·have h2:1<n.kids.length:=by have:=hG.least (.inr h);omega
   obtain⟨m,⟨X,m',hLs,ac,rfl⟩,hc,h6,hs,rfl⟩:=(hB.b13 h).2 h2
   have hne:n.kids≠[]:=fun e=>by rw[e]at h2;simp at h2
   have hmany:pe.many p0=6:=by unfold pe.many;rw[if_pos (by rw[h,F]at G;exact G)]
   have:=els_ok (g:=g) (mx:=6) ht hS n.kids [] (a+1) m' hne hks hLs (by rw[ac];decide) (by omega) (by omega) (by have:=hG.most;simpa using this) (by omega)
   simp only[List.length_nil,Nat.sub_zero,List.nil_append]at this
   refine one (R:=fin 13 0 (tx L (m'+1+1)) (n.kids.map fun k=>sub l k.toNat) (m'+1+2)) ?_ (by rw[←hfin _ _ _ hs rfl,h,F])
   unfold first
   rw[if_pos X]
   unfold pe.group
   rw[hmany,this]
   show(if pe.kd L m'=33 then _ else _)=_
   rw[if_pos ac,if_neg (by rw[List.length_map];exact h1)]
   unfold pe.inn
   rw[if_pos hc,if_pos h6]
 ·obtain⟨m,m',hD,hc,ab,ad,J⟩:=hB.b14 h
  have F:=q2 (by simp[h])
  have I:=q3 (by simp[h])
  have hlen:=hG.three h
  obtain⟨x,y,z,hxy⟩:=three_kids hlen
  have hL:Left n:=by unfold Left;omega
  have e1:=hD.1
  have e2:=ab.1
  have e3:=J.1
  have S:=kq_kp (K:=1) (cnt:=3) hL.open ho hpp P (by omega) (by omega) (by omega) ei eg (.inl (by decide))
  have ae:=kq_kp (K:=2) (cnt:=3) hL.open ho hpp P (by omega) (by omega) (by omega) ei eg (.inl (by decide))
  obtain⟨lv,tg,k,hr,hlv⟩:=hleft hL (by omega) m hD (by rw[hc,h];decide) (by rw[hc,F];decide) (by omega) (by omega) (by omega) (by omega)
  obtain⟨au,av,ao⟩:=exD (g:=g) ht hS (hkid 1 (by omega)).1 (hkid 1 (by omega)).2 ab (fol_close (kp_ok hL.open ho hpp (by omega)).2.2 (by rw[ad];decide)) (by omega) (by omega)
  obtain⟨Y,V,am⟩:=exD (g:=g) ht hS (hkid 2 (by omega)).1 (hkid 2 (by omega)).2 J (hSf.2.2 h) O (by omega)
  refine⟨k+1,hr.next (bin_go hL (by omega) ho hpp G (by rw[hc,h];decide) (by rw[hc,F];decide) (by omega) (by rw[hc];decide) (fun _ _=>hlv) (by omega)) ?_ (by omega) l2⟩
  rw[←hfin ⟨#[]⟩ [sub l (kd n 0),sub l (kd n 1),sub l (kd n 2)] _ I.symm (by rw[hxy];simp[kd,hxy]),hc,h,F]
  rw[h,F]at S ae
  have aa:kq 14 0 3 1 p0=kp n 1 p:=S
  have ag:kq 14 0 3 2 p0=kp n 2 p:=ae
  show pe.cond (pe.ex L g) L p0 (sub l (kd n 0)) m=_
  unfold pe.cond
  rw[aa,ao]
  show(if pe.kd L m'=66 then _ else _)=_
  rw[if_pos ad,ag,am]
 ·obtain⟨m,hU,hc,hD⟩:=hB.b15 h
  have I:=q3 (by simp[h])
  have hlen:=hG.two (.inr h)
  obtain⟨x,y,hxy⟩:=two_kids hlen
  have hL:Left n:=by unfold Left;omega
  have hop:n.op=54∨n.op=38∨n.op=39∨n.op=40∨n.op=41∨n.op=42∨n.op=43:=by
   rw[h]at ho
   simp[rt.opOk,chars.inR]at ho
   omega
  have hct:ctK n.op=15∧ctO n.op=n.op∧ctN n.op=2∧isAsg n.op=true∧¬n.op=34∧¬(n.op=44∨n.op=45):=by
   rcases hop with e|e|e|e|e|e|e<;>rw[e]<;>decide
  obtain⟨t1,t2,t3,t4,t5,t6⟩:=hct
  have e1:=hU.lt
  have e2:=hD.1
  have S:=kq_kp (K:=1) (cnt:=2) hL.open ho hpp P (by omega) (by omega) (by omega) ei eg (.inl (by decide))
  obtain⟨lv,k,hr⟩:=htgt (.inr h) (by omega) m hU (by rw[hc,t1,h]) (by rw[hc,t2]) (by omega) (by omega)
  obtain⟨Y,V,he⟩:=exD (g:=g) ht hS (hkid 1 (by omega)).1 (hkid 1 (by omega)).2 hD (hSf.2.1 (by omega)) O (by omega)
  refine⟨k+1,hr.next (bin_go hL (by omega) ho hpp G (by rw[hc,t1,h]) (by rw[hc,t2]) (by omega) (by rw[hc,t3];exact Nat.two_pos) (by omega) (fun _=>rfl)) ?_ (by omega) l2⟩
  rw[←hfin ⟨#[]⟩ [sub l (kd n 0),sub l (kd n 1)] _ I.symm (by rw[hxy];simp[kd,hxy]),hc,h]
  unfold pe.step
  rw[t4,if_pos rfl]
  unfold pe.rd2 behind
  rw[if_neg t6]
  rw[h]at S
  have aa:kq 15 n.op 2 1 p0=kp n 1 p:=S
  rw[aa,he]
theorem sp_all(ht:treeOk l=true):∀f,SP L l f:=by
 intro f
 induction f with
 |zero=>intro i p p0 g a b _ _ _ _ _ _ _ h;cases h
 |succ f ih=>exact sp_succ ht ih
theorem read_dv(ht:treeOk l=true){f i:Nat}{p:Ps}{g a b:Nat}(hi:i<l.length)(hk:isExpr (l.getD i default).k=true)(hD:Dv L l (Un L l f) i p a b)(hF:Fol (pe.kd L b) p)(h34:¬pe.kd L b=34)(hb:b≤a+g):∃lv tg,pe.ex L g p a= .ok lv tg (sub l i) b:=exD ht (sp_all ht f) hi hk hD hF h34 hb
end
end Go.Proofs.YtnoagleifffkcaaGreatDoor.rb

namespace Go.Proofs.YtnoagleifffkcaaGreatDoor.rb
open Go.RowKit
open nd (Nd)
open tk (Tk)
open ps (Ps posOk top)
open lv (levelOf opLevel)
open rt (treeOk isExpr isLval)
open pe (tx ft sk behind isAsg)
open et (kp kd Good tok nam lst brack body un par)
set_option linter.unusedVariables false
set_option linter.unusedSimpArgs false
set_option maxRecDepth 20000
def At(L:List Tk)(a:Nat)(T:List Tk):Prop:=∃B,L.drop a=T++B
section
variable {L:List Tk}
theorem At.self:At L 0 L:=⟨[],by simp⟩
theorem At.left{a:Nat}{T U:List Tk}(h:At L a (T++U)):At L a T:=by
 obtain⟨B,h⟩:=h
 exact⟨U++B,by rw[h,List.append_assoc]⟩
theorem At.right{a:Nat}{T U:List Tk}(h:At L a (T++U)):At L (a+T.length) U:=by
 obtain⟨B,h⟩:=h
 exact⟨B,by rw[←List.drop_drop,h,List.append_assoc,List.drop_left]⟩
theorem At.hd{a:Nat}{t:Tk}{T:List Tk}(h:At L a (t::T)):pe.kd L a=t.k∧tx L a=t.s∧a<L.length:=by
 obtain⟨B,h⟩:=h
 have h1:L[a]? =some t:=by
  have:=congrArg (fun x=>x[0]?) h
  simpa [List.getElem?_drop]using this
 have h2:=(List.getElem?_eq_some_iff.1 h1).1
 unfold pe.kd tx
 rw[h1]
 exact⟨rfl,rfl,h2⟩
theorem At.tl{a:Nat}{t:Tk}{T:List Tk}(h:At L a (t::T)):At L (a+1) T:=At.right (T:=[t]) h
theorem At.len{a:Nat}{T:List Tk}(h:At L a T)(h0:0<T.length):a+T.length≤L.length:=by
 obtain⟨B,h⟩:=h
 have:=congrArg List.length h
 rw[List.length_drop,List.length_append]at this
 omega
theorem sk_id{i:Nat}(h:hd (pe.kd L i)=true):sk L i=i:=by
 have:¬(pe.kd L i=1∨pe.kd L i=2):=by
  rintro(e|e)<;>rw[e]at h<;>exact absurd h (by decide)
 unfold sk
 generalize L.length=g
 cases g with
 |zero=>rfl
 |succ g=>exact if_neg this
theorem lst_pre{E:Nat→Ps→List Tk}{n:Nd}{a:Nat}:∀d J,At L a (lst E n (J+d))→At L a (lst E n J):=by
 intro d
 induction d with
 |zero=>intro J h;exact h
 |succ d ih=>intro J h;exact ih J (At.left (At.left h))
theorem lst_inst{D:Nat→Ps→Nat→Nat→Prop}{E:Nat→Ps→List Tk}{n:Nd}{a:Nat}(hE:∀j,j<n.kids.length→∀a,At L a (E (kd n j) top)→D (kd n j) top a (a+(E (kd n j) top).length)∧hd (pe.kd L a)=true)(hA:At L a (lst E n n.kids.length)):∀d J,J+d=n.kids.length→0<d→Ls L D (n.kids.drop J) (a+(lst E n J).length+(if J=0 then 0 else 1)) (a+(lst E n n.kids.length).length):=by
 intro d
 induction d with
 |zero=>intro J h h0;omega
 |succ d ih=>
  intro J hJ _
  have hp:At L a (lst E n (J+1)):=lst_pre d (J+1) (by rw[show J+1+d=n.kids.length by omega];exact hA)
  have y:At L a ((lst E n J++(if J=0 then[]else[tok 36]))++E (kd n J) top):=hp
  have h1:=y.right
  have hl:(lst E n J++(if J=0 then[]else[tok 36])).length=(lst E n J).length+(if J=0 then 0 else 1):=by
   rw[List.length_append];split<;>rfl
  rw[hl,←Nat.add_assoc]at h1
  obtain⟨d1,d2⟩:=hE J (by omega) _ h1
  have hlen:(lst E n (J+1)).length=(lst E n J).length+(if J=0 then 0 else 1)+(E (kd n J) top).length:=by
   show((lst E n J++(if J=0 then[]else[tok 36]))++E (kd n J) top).length=_
   rw[List.length_append,hl]
  rw[List.drop_eq_getElem_cons (by omega:J<n.kids.length)]
  have hk:n.kids[J].toNat=kd n J:=by unfold kd;rw[List.getD_eq_getElem?_getD,List.getElem?_eq_getElem];rfl
  refine⟨a+(lst E n (J+1)).length, ?_, ?_⟩
  ·rw[hk,hlen]
   rw[show a+((lst E n J).length+(if J=0 then 0 else 1)+(E (kd n J) top).length)=a+(lst E n J).length+(if J=0 then 0 else 1)+(E (kd n J) top).length by omega]
   exact d1
  ·by_cases h0:d=0
   ·subst h0
    refine .inl ⟨List.drop_eq_nil_of_le (by omega), ?_⟩
    rw[show n.kids.length=J+1 by omega]
   ·refine .inr ⟨fun e=>by have:=congrArg List.length e;simp at this;omega, ?_⟩
    have hq:At L a ((lst E n (J+1)++[tok 36])++E (kd n (J+1)) top):=by
     have:=lst_pre (E:=E) (n:=n) (a:=a) (d-1) (J+2) (by rw[show J+2+(d-1)=n.kids.length by omega];exact hA)
     exact this
    have hc:=(At.right hq.left).hd
    have hn:=hq.right
    rw[List.length_append,List.length_singleton]at hn
    have hh:=(hE (J+1) (by omega) _ hn).2
    have hsk:sk L (a+(lst E n (J+1)).length+1)=a+(lst E n (J+1)).length+1:=sk_id hh
    refine⟨hc.1, ?_⟩
    rw[hsk]
    have:=ih (J+1) (by omega) (by omega)
    rw[if_neg (by omega)]at this
    exact this
theorem brack_inst{D:Nat→Ps→Nat→Nat→Prop}{E:Nat→Ps→List Tk}{n:Nd}{a:Nat}{x y:Int}(hE:∀j,j<n.kids.length→∀a,At L a (E (kd n j) top)→D (kd n j) top a (a+(E (kd n j) top).length)∧hd (pe.kd L a)=true)(hA:At L a (brack E n x y)):Br L D n.kids x y a (a+(brack E n x y).length)∧a+(brack E n x y).length≤L.length:=by
 have hA:At L a (tok x::(lst E n n.kids.length++[tok y])):=hA
 have h2:=hA.tl
 have h3:=h2.right.hd
 have e:(brack E n x y).length=(lst E n n.kids.length).length+1+1:=by simp[brack]
 refine⟨⟨hA.hd.1,a+1+(lst E n n.kids.length).length, ?_,h3.1,by omega⟩,by omega⟩
 by_cases h0:n.kids.length=0
 ·have F:n.kids=[]:=List.length_eq_zero_iff.1 h0
  rw[h0,F]
  rfl
 ·have:=lst_inst hE h2.left n.kids.length 0 (by omega) (by omega)
  simpa [lst]using this
end
section
variable {L:List Tk} {l:List Nd}
theorem inst(ht:treeOk l=true){enc:Nd→Ps→Bool}(he:∀n:Nd,∀q:Ps,isExpr n.k=true→¬levelOf n.k n.op=0→posOk q.l q.d=true→enc n q=false→ft n.k n.op q=true):∀f i p a,i<f→i<l.length→isExpr (l.getD i default).k=true→posOk p.l p.d=true→At L a (un enc l f i p)→Un L l f i p a (a+(un enc l f i p).length):=by
 intro f
 induction f with
 |zero=>intro i p a h;omega
 |succ f ih=>
  intro i p a hif hi hk hp hA
  rw[et.un_succ]at hA⊢
  obtain⟨n,hn⟩:∃n,l.getD i default=n:=⟨_,rfl⟩
  show a<_∧_∧Bd L _ _ (l.getD i default) p a _
  rw[hn]at hk hA⊢
  have hG:=Good.at ht hi hn hk
  obtain⟨-,-,-,ho,-⟩:=flds ht hi hn hk
  have hr:=et.expr_range hk
  have hkid:∀j,j<n.kids.length→kd n j<f∧kd n j<l.length∧isExpr (l.getD (kd n j) default).k=true:=fun j hj=>⟨by have:=(hG.kids j hj).1;omega,Nat.lt_trans (hG.kids j hj).1 hi,(hG.kids j hj).2.2⟩
  have hE:∀j,j<n.kids.length→∀q a,posOk q.l q.d=true→At L a (et.ex enc l f (kd n j) q)→Dv L l (Un L l f) (kd n j) q a (a+(et.ex enc l f (kd n j) q).length)∧hd (pe.kd L a)=true:=by
   intro j hj q a hq hA
   obtain⟨k1,k2,k3⟩:=hkid j hj
   have hD:Dv L l (Un L l f) (kd n j) q a (a+(et.ex enc l f (kd n j) q).length):=by
    unfold et.ex par at hA⊢
    by_cases hen:enc (l.getD (kd n j) default) q=true
    ·rw[if_pos hen]at hA⊢
     have h2:=hA.tl
     have hU:=ih _ top _ k1 k2 k3 (by decide) h2.left
     have h3:=h2.right.hd
     have hl:=hU.lt
     have e:(tok 32::(un enc l f (kd n j) top++[tok 33])).length=(un enc l f (kd n j) top).length+1+1:=by simp
     exact⟨by omega,by omega,.inr ⟨0,hA.hd.1,_,hU,h3.1,by omega⟩⟩
    ·rw[if_neg hen]at hA⊢
     have hU:=ih _ q _ k1 k2 k3 hq hA
     have hl:=hU.lt
     exact⟨hl.1,hl.2,.inl ⟨he _ _ k3 (et.level_some (Good.at ht k2 rfl k3)) hq (by simpa using hen),hU⟩⟩
   exact⟨hD,(hd_dv ht k2 k3 hD).1⟩
  have hT:∀j,j<n.kids.length→∀a,At L a (et.ex enc l f (kd n j) top)→Dv L l (Un L l f) (kd n j) top a (a+(et.ex enc l f (kd n j) top).length)∧hd (pe.kd L a)=true:=fun j hj a h=>hE j hj top a (by decide) h
  have hU:∀j,j<n.kids.length→∀q a,posOk q.l q.d=true→At L a (un enc l f (kd n j) q)→Un L l f (kd n j) q a (a+(un enc l f (kd n j) q).length):=fun j hj q a hq hA=>by
   obtain⟨k1,k2,k3⟩:=hkid j hj
   exact ih _ q a k1 k2 k3 hq hA
  have hcase:n.k=1∨n.k=2∨n.k=3∨n.k=4∨n.k=5∨n.k=6∨n.k=7∨n.k=8∨n.k=9∨n.k=10∨n.k=11∨n.k=12∨n.k=13∨n.k=14∨n.k=15:=by omega
  have hpos:Open n→∀K:Int,0≤K∧K<(n.kids.length:Int)→posOk (kp n K p).l (kp n K p).d=true:=fun hO K hK=>(kp_ok hO ho hp hK).1
  rcases hcase with h|h|h|h|h|h|h|h|h|h|h|h|h|h|h
  ·rw[et.body_1 h]at hA⊢
   obtain⟨c1,c2,c3⟩:=hA.hd
   refine⟨by simp,by simp;omega, ?_⟩
   constructor<;>intro e<;>first|(exfalso;omega)|exact⟨c1,c2,rfl⟩
  ·rw[et.body_2 h]at hA⊢
   obtain⟨c1,c2,c3⟩:=hA.hd
   refine⟨by simp,by simp;omega, ?_⟩
   constructor<;>intro e<;>first|(exfalso;omega)|exact⟨c1,c2,rfl⟩
  ·rw[et.body_3 h]at hA⊢
   obtain⟨c1,c2,c3⟩:=hA.hd
   refine⟨by simp,by simp;omega, ?_⟩
   constructor<;>intro e<;>first|(exfalso;omega)|exact⟨c1,c2,rfl⟩
  ·rw[et.body_4 h]at hA⊢
   obtain⟨c1,c2,c3⟩:=hA.hd
   refine⟨by simp,by simp;omega, ?_⟩
   constructor<;>intro e<;>first|(exfalso;omega)|exact⟨c1,c2,rfl⟩
  ·rw[et.body_5 h]at hA⊢
   obtain⟨c1,c2,c3⟩:=hA.hd
   obtain⟨h1,h2⟩:=brack_inst hT hA.tl
   rw[List.length_cons,←Nat.add_assoc,Nat.add_right_comm]
   refine⟨by omega,h2, ?_⟩
   constructor<;>intro e<;>first|(exfalso;omega)|exact⟨c1,c2,h1⟩
  ·rw[et.body_6 h]at hA⊢
   obtain⟨c1,c2,c3⟩:=hA.hd
   have h1:=(hE 0 (by rw[hG.one (by omega)];exact Nat.one_pos) _ _ (hpos (by unfold Open;omega) 0 (by have:=hG.one (by omega);omega)) hA.tl).1
   rw[List.length_cons,←Nat.add_assoc,Nat.add_right_comm]
   refine⟨by omega,h1.2.1, ?_⟩
   constructor<;>intro e<;>first|(exfalso;omega)|exact⟨c1,h1⟩
  ·rw[et.body_7 h]at hA⊢
   obtain⟨c1,c2,c3⟩:=hA.hd
   obtain⟨h1,h2⟩:=brack_inst hT hA.tl
   rw[List.length_cons,←Nat.add_assoc,Nat.add_right_comm]
   refine⟨by omega,h2, ?_⟩
   constructor<;>intro e<;>first|(exfalso;omega)|exact⟨c1,c2,h1⟩
  ·rw[et.body_8 h]at hA⊢
   obtain⟨c1,c2,c3⟩:=hA.hd
   obtain⟨h1,h2⟩:=brack_inst hT hA.tl
   rw[List.length_cons,←Nat.add_assoc,Nat.add_right_comm]
   refine⟨by omega,h2, ?_⟩
   constructor<;>intro e<;>first|(exfalso;omega)|exact⟨c1,c2,.inr h1⟩
  ·rw[et.body_9 h]at hA⊢
   obtain⟨c1,c2,c3⟩:=hA.hd
   have h1:=hU 0 (by rw[hG.one (by omega)];exact Nat.one_pos) _ _ (hpos (by unfold Open;omega) 0 (by have:=hG.one (by omega);omega)) hA.tl
   rw[List.length_cons,←Nat.add_assoc,Nat.add_right_comm]
   refine⟨by omega,h1.lt.2, ?_⟩
   constructor<;>intro e<;>first|(exfalso;omega)|exact⟨c1,h1⟩
  ·rw[et.body_10 h]at hA⊢
   have h1:=hU 0 (by rw[hG.one (by omega)];exact Nat.one_pos) _ _ (hpos (by unfold Open;omega) 0 (by have:=hG.one (by omega);omega)) hA.left
   obtain⟨c1,c2,c3⟩:=hA.right.hd
   have hl:=h1.lt
   rw[List.length_append,List.length_singleton,←Nat.add_assoc]
   refine⟨by omega,by omega, ?_⟩
   constructor<;>intro e<;>first|(exfalso;omega)|exact⟨_,h1,c1,rfl⟩
  ·rw[et.body_11 h]at hA⊢
   obtain⟨c1,c2,c3⟩:=hA.hd
   have h1:=(hE 0 (by rw[hG.one (by omega)];exact Nat.one_pos) _ _ (hpos (by unfold Open;omega) 0 (by have:=hG.one (by omega);omega)) hA.tl).1
   rw[List.length_cons,←Nat.add_assoc,Nat.add_right_comm]
   refine⟨by omega,h1.2.1, ?_⟩
   constructor<;>intro e<;>first|(exfalso;omega)|exact⟨c1,h1⟩
  ·rw[et.body_12 h]at hA⊢
   have hlen:=hG.two (.inl h)
   have hO:Open n:=by unfold Open;omega
   have h1:=(hE 0 (by omega) _ _ (hpos hO 0 (by omega)) hA.left).1
   have hR:=hA.right
   have hl:=h1.1
   by_cases h99:n.op=99
   ·rw[if_pos h99,List.nil_append]at hR⊢
    have h2:=(hE 1 (by omega) _ _ (hpos hO 1 (by omega)) hR).1
    rw[List.length_append,←Nat.add_assoc]
    have G:=h2.1
    refine⟨by omega,h2.2.1, ?_⟩
    constructor<;>intro e<;>first|(exfalso;omega)|exact⟨_,h1,.inl ⟨h99,h2⟩⟩
   ·rw[if_neg h99]at hR⊢
    obtain⟨c1,c2,c3⟩:=hR.hd
    have y:=hR.tl
    obtain⟨h2,hh⟩:=hE 1 (by omega) _ _ (hpos hO 1 (by omega)) y
    have G:=h2.1
    have hbeh:behind L n.op (a+(et.ex enc l f (kd n 0) (kp n 0 p)).length)=a+(et.ex enc l f (kd n 0) (kp n 0 p)).length+1:=by
     unfold behind
     split
     ·exact sk_id hh
     ·rfl
    have e2:a+(et.ex enc l f (kd n 0) (kp n 0 p)++([tok n.op]++et.ex enc l f (kd n 1) (kp n 1 p))).length=a+(et.ex enc l f (kd n 0) (kp n 0 p)).length+1+(et.ex enc l f (kd n 1) (kp n 1 p)).length:=by
     simp;omega
    rw[e2]
    refine⟨by omega,h2.2.1, ?_⟩
    constructor<;>intro e<;>first|(exfalso;omega)|exact⟨_,h1,.inr ⟨h99,c1,by rw[hbeh];exact h2⟩⟩
  ·rw[et.body_13 h]at hA⊢
   by_cases hm:1<n.kids.length
   ·rw[if_pos hm]at hA⊢
    obtain⟨h1,h2⟩:=brack_inst hT hA.left
    have hR:=hA.right
    obtain⟨c1,c2,c3⟩:=hR.hd
    obtain⟨d1,d2,d3⟩:=hR.tl.hd
    have e2:a+(brack (et.ex enc l f) n 32 33++[tok 24,nam 6 n.s]).length=a+(brack (et.ex enc l f) n 32 33).length+2:=by simp;omega
    rw[e2]
    refine⟨by omega,by omega, ?_⟩
    constructor<;>intro e<;>first|(exfalso;omega)|exact⟨fun I=>by omega,fun _=>⟨_,h1,c1,d1,d2,rfl⟩⟩
   ·rw[if_neg hm]at hA⊢
    have J:n.kids.length=1:=by have:=hG.least (.inr h);omega
    have h1:=(hE 0 (by omega) _ _ (hpos (by unfold Open;omega) 0 (by omega)) hA.left).1
    have hR:=hA.right
    obtain⟨c1,c2,c3⟩:=hR.hd
    obtain⟨d1,d2,d3⟩:=hR.tl.hd
    have e2:a+(et.ex enc l f (kd n 0) (kp n 0 p)++[tok 24,nam 6 n.s]).length=a+(et.ex enc l f (kd n 0) (kp n 0 p)).length+2:=by simp;omega
    rw[e2]
    refine⟨by omega,by omega, ?_⟩
    constructor<;>intro e<;>first|(exfalso;omega)|exact⟨fun _=>⟨_,h1,c1,d1,d2,rfl⟩,fun I=>by omega⟩
  ·rw[et.body_14 h]at hA⊢
   have hlen:=hG.three h
   have hO:Open n:=by unfold Open;omega
   have h1:=(hE 0 (by omega) _ _ (hpos hO 0 (by omega)) hA.left).1
   have hR:=hA.right
   obtain⟨c1,c2,c3⟩:=hR.hd
   have y:=hR.tl
   have h2:=(hE 1 (by omega) _ _ (hpos hO 1 (by omega)) y.left).1
   have F:=y.right
   obtain⟨d1,d2,d3⟩:=F.hd
   have h3:=(hE 2 (by omega) _ _ (hpos hO 2 (by omega)) F.tl).1
   have l1:=h1.1
   have l2:=h2.1
   have l3:=h3.1
   have e2:a+(et.ex enc l f (kd n 0) (kp n 0 p)++(tok 65::(et.ex enc l f (kd n 1) (kp n 1 p)++(tok 66::et.ex enc l f (kd n 2) (kp n 2 p))))).length=a+(et.ex enc l f (kd n 0) (kp n 0 p)).length+1+(et.ex enc l f (kd n 1) (kp n 1 p)).length+1+(et.ex enc l f (kd n 2) (kp n 2 p)).length:=by
    simp;omega
   rw[e2]
   refine⟨by omega,h3.2.1, ?_⟩
   constructor<;>intro e<;>first|(exfalso;omega)|exact⟨_,_,h1,c1,h2,d1,h3⟩
  ·rw[et.body_15 h]at hA⊢
   have hlen:=hG.two (.inr h)
   have hO:Open n:=by unfold Open;omega
   have h1:=hU 0 (by omega) _ _ (hpos hO 0 (by omega)) hA.left
   have hR:=hA.right
   obtain⟨c1,c2,c3⟩:=hR.hd
   have h2:=(hE 1 (by omega) _ _ (hpos hO 1 (by omega)) hR.tl).1
   have l1:=h1.lt
   have l2:=h2.1
   have e2:a+(un enc l f (kd n 0) (kp n 0 p)++(tok n.op::et.ex enc l f (kd n 1) (kp n 1 p))).length=a+(un enc l f (kd n 0) (kp n 0 p)).length+1+(et.ex enc l f (kd n 1) (kp n 1 p)).length:=by
    simp;omega
   rw[e2]
   refine⟨by omega,h2.2.1, ?_⟩
   constructor<;>intro e<;>first|(exfalso;omega)|exact⟨_,h1,c1,h2⟩
theorem inst_ex(ht:treeOk l=true){enc:Nd→Ps→Bool}(he:∀n:Nd,∀q:Ps,isExpr n.k=true→¬levelOf n.k n.op=0→posOk q.l q.d=true→enc n q=false→ft n.k n.op q=true){f i:Nat}{p:Ps}(hf:i<f)(hi:i<l.length)(hk:isExpr (l.getD i default).k=true)(hp:posOk p.l p.d=true):Dv (et.ex enc l f i p) l (Un (et.ex enc l f i p) l f) i p 0 (et.ex enc l f i p).length:=by
 obtain⟨T,hT⟩:∃T,et.ex enc l f i p=T:=⟨_,rfl⟩
 have hA:At T 0 (et.ex enc l f i p):=by rw[hT];exact At.self
 rw[hT]
 rw[show T.length=(et.ex enc l f i p).length by rw[hT]]
 unfold et.ex par at hA⊢
 by_cases hen:enc (l.getD i default) p=true
 ·rw[if_pos hen]at hA⊢
  have h2:=hA.tl
  have hU:=inst ht he f i top _ hf hi hk (by decide) h2.left
  have h3:=h2.right.hd
  have hl:=hU.lt
  have e:(tok 32::(un enc l f i top++[tok 33])).length=(un enc l f i top).length+1+1:=by simp
  exact⟨by omega,by omega,.inr ⟨0,hA.hd.1,_,hU,h3.1,by omega⟩⟩
 ·rw[if_neg hen]at hA⊢
  have hU:=inst ht he f i p _ hf hi hk hp hA
  rw[Nat.zero_add]at hU
  have hl:=hU.lt
  exact⟨hl.1,hl.2,.inl ⟨he _ _ hk (et.level_some (Good.at ht hi rfl hk)) hp (by simpa using hen),hU⟩⟩
end
end Go.Proofs.YtnoagleifffkcaaGreatDoor.rb

namespace Go.Proofs.YtnoagleifffkcaaGreatDoor.rb
open Go.RowKit
open nd (Nd)
open tk (Tk)
open ps (Ps posOk top)
open lv (levelOf opLevel)
open rt (treeOk isExpr isLval)
open pe (ft)
open tksok (tokensOk okFrom)
open operand (ends)
open et (kp kd Good tok nam lst brack body un par full mis)
set_option linter.unusedVariables false
set_option linter.unusedSimpArgs false
set_option maxRecDepth 20000
theorem spell_le(n:Int):(spell.spell n).size≤16:=by
 unfold spell.spell
 split
 ·decide
 split
 ·next h=>
  obtain⟨k,hk,e⟩:∃k:Nat,k<17∧(n-10).toNat=k:=⟨(n-10).toNat,by omega,rfl⟩
  rw[e]
  have:∀k:Fin 17,(toks.words.getD k.1 ⟨#[]⟩).size≤16:=by decide
  exact this ⟨k,hk⟩
 split
 ·next h=>
  obtain⟨k,hk,e⟩:∃k:Nat,k<39∧(n-30).toNat=k:=⟨(n-30).toNat,by omega,rfl⟩
  rw[e]
  have:∀k:Fin 39,(toks.signs.getD k.1 ⟨#[]⟩).size≤16:=by decide
  exact this ⟨k,hk⟩
 ·decide
def OkS(E:Bool)(T:List Tk):Prop:=(∀t∈T,t.s.size≤1048576)∧∀q:Int,¬q=7→¬q=2→∃c:Int,¬c=7∧¬c=2∧(E=true→ends c=true)∧∀rest,okFrom q (T++rest)=okFrom c rest
theorem OkS.nil:OkS false []:=⟨fun t h=>by simp at h,fun q h7 h2=>⟨q,h7,h2,(fun h=>absurd h (by decide)),fun _=>rfl⟩⟩
theorem OkS.app{e e':Bool}{T U:List Tk}(h:OkS e' T)(h':OkS e U):OkS e (T++U):=by
 refine⟨fun t ht=>(List.mem_append.1 ht).elim (h.1 t) (h'.1 t),fun q h7 h2=> ?_⟩
 obtain⟨c,c7,c2,-,c4⟩:=h.2 q h7 h2
 obtain⟨d,d7,d2,d3,d4⟩:=h'.2 c c7 c2
 exact⟨d,d7,d2,d3,fun rest=>by rw[List.append_assoc,c4,d4]⟩
theorem OkS.weak{e:Bool}{T:List Tk}(h:OkS e T):OkS false T:=⟨h.1,fun q h7 h2=>by
 obtain⟨c,c7,c2,-,c4⟩:=h.2 q h7 h2
 exact⟨c,c7,c2,(fun h=>absurd h (by decide)),c4⟩⟩
theorem OkS.one{k:Int}{s:ByteArray}(hs:s.size≤1048576)(ht:tok.tokOk k s=true)(h7:¬k=7)(h2:¬k=2)(h5:¬k=5)(h58:¬(k=58∨k=41)):OkS (ends k) [⟨k,s,0⟩]:=by
 refine⟨fun t h=>by simp at h;subst h;exact hs,fun q q7 q2=>⟨k,h7,h2,fun h=>h,fun rest=> ?_⟩⟩
 show(tok.tokOk k s&&(tksok.follow q k&&okFrom k rest))=okFrom k rest
 have:tksok.follow q k=true:=by
  unfold tksok.follow
  rw[if_neg (fun e=>q7 e.1),if_neg (fun e=>q2 e.1),if_neg h5,if_neg h58]
 rw[ht,this]
 rfl
theorem sym_ok{k:Int}(h:9≤k)(h0:0<(spell.spell k).size):tok.tokOk k (spell.spell k)=true:=by
 unfold tok.tokOk
 rw[if_neg (by omega),if_neg (by omega),if_neg (by omega),if_neg (by omega),if_neg (by omega),if_neg (by omega),chars.ne_empty h0]
 simp
def symOk(k:Int):Bool:=decide (9≤k)&&decide (0<(spell.spell k).size)&& !(k==58||k==41)
theorem OkS.sym{k:Int}(h:symOk k=true):OkS (ends k) [tok k]:=by
 unfold symOk at h
 simp only[Bool.and_eq_true,decide_eq_true_eq,Bool.not_eq_true',Bool.or_eq_false_iff,beq_eq_false_iff_ne]at h
 exact OkS.one (Nat.le_trans (spell_le k) (by decide)) (sym_ok h.1.1 h.1.2) (by omega) (by omega) (by omega) (by omega)
theorem OkS.op{T:List Tk}(hT:OkS true T){k:Int}(ht:tok.tokOk k (spell.spell k)=true)(h7:¬k=7)(h2:¬k=2)(h5:¬k=5):OkS (ends k) (T++[tok k]):=by
 refine⟨fun t h=>(List.mem_append.1 h).elim (hT.1 t) (fun h=>by simp at h;subst h;exact Nat.le_trans (spell_le k) (by decide)),fun q q7 q2=> ?_⟩
 obtain⟨c,c7,c2,c3,c4⟩:=hT.2 q q7 q2
 refine⟨k,h7,h2,fun h=>h,fun rest=> ?_⟩
 rw[List.append_assoc,c4]
 show(tok.tokOk k (spell.spell k)&&(tksok.follow c k&&okFrom k rest))=okFrom k rest
 have:tksok.follow c k=true:=by
  unfold tksok.follow
  rw[if_neg (fun e=>c7 e.1),if_neg (fun e=>c2 e.1),if_neg h5]
  split
  ·exact c3 rfl
  ·rfl
 rw[ht,this]
 rfl
theorem OkS.fn{s:ByteArray}(hs:s.size≤1048576)(ht:spell.nameOk s=true){e:Bool}{T:List Tk}(h:OkS e T):OkS e (nam 7 s::tok 32::T):=by
 refine⟨fun t h'=> ?_,fun q q7 q2=> ?_⟩
 ·rcases List.mem_cons.1 h' with rfl|h'
  ·exact hs
  rcases List.mem_cons.1 h' with rfl|h'
  ·exact Nat.le_trans (spell_le 32) (by decide)
  ·exact h.1 t h'
 ·obtain⟨c,c7,c2,c3,c4⟩:=h.2 32 (by decide) (by decide)
  refine⟨c,c7,c2,c3,fun rest=> ?_⟩
  show(tok.tokOk 7 s&&(tksok.follow q 7&&(tok.tokOk 32 (spell.spell 32)&&(tksok.follow 7 32&&okFrom 32 (T++rest)))))=_
  have h1:tok.tokOk 7 s=true:=by simp[tok.tokOk,ht]
  have h3:tksok.follow q 7=true:=by
   unfold tksok.follow
   rw[if_neg (fun e=>q7 e.1),if_neg (fun e=>q2 e.1)]
   rfl
  have h4:tok.tokOk 32 (spell.spell 32)=true:=sym_ok (by decide) (by decide)
  have h5:tksok.follow 7 32=true:=by decide
  rw[h1,h3,h4,h5,c4]
  rfl
theorem OkS.ere{s:ByteArray}(hs:s.size≤1048576)(ht:tok.tokOk 5 s=true):OkS true (tok 32::([nam 5 s]++[tok 33])):=by
 refine⟨fun t h'=> ?_,fun q q7 q2=>⟨33,by decide,by decide,fun _=>by decide,fun rest=> ?_⟩⟩
 ·simp at h'
  rcases h' with rfl|rfl|rfl
  ·exact Nat.le_trans (spell_le 32) (by decide)
  ·exact hs
  ·exact Nat.le_trans (spell_le 33) (by decide)
 ·show(tok.tokOk 32 (spell.spell 32)&&(tksok.follow q 32&&(tok.tokOk 5 s&&(tksok.follow 32 5&&(tok.tokOk 33 (spell.spell 33)&&(tksok.follow 5 33&&okFrom 33 rest))))))=_
  have h3:tksok.follow q 32=true:=by
   unfold tksok.follow
   rw[if_neg (fun e=>by omega),if_neg (fun e=>q2 e.1)]
   rfl
  rw[sym_ok (k:=32) (by decide) (by decide),h3,ht,show tksok.follow 32 5=true by decide,sym_ok (k:=33) (by decide) (by decide),show tksok.follow 5 33=true by decide]
  rfl
theorem OkS.lst{E:Nat→Ps→List Tk}{n:Nd}(hE:∀j,j<n.kids.length→OkS true (E (kd n j) top)):∀J,J≤n.kids.length→OkS false (lst E n J):=by
 intro J
 induction J with
 |zero=>intro _;exact OkS.nil
 |succ J ih=>
  intro hJ
  refine OkS.app (e':=false) (OkS.app (ih (by omega)) ?_) (hE J (by omega)).weak
  show OkS false (if J=0 then[]else[tok 36])
  split
  ·exact OkS.nil
  ·exact(OkS.sym (by decide)).weak
theorem OkS.brack{E:Nat→Ps→List Tk}{n:Nd}(hE:∀j,j<n.kids.length→OkS true (E (kd n j) top)){x y:Int}(hx:symOk x=true)(hy:symOk y=true)(hy2:ends y=true):OkS true (brack E n x y):=by
 show OkS true ([tok x]++(et.lst E n n.kids.length++[tok y]))
 have:=OkS.sym hy
 rw[hy2]at this
 exact(OkS.sym hx).app ((OkS.lst hE _ (Nat.le_refl _)).app this)
theorem op_tok{op:Int}(h:rt.isBin op=true∨op=51∨op=52∨op=55∨op=56∨op=61∨op=54∨(38≤op∧op≤43))(h99:¬op=99):tok.tokOk op (spell.spell op)=true∧¬op=7∧¬op=2∧¬op=5:=by
 have hc:op=60∨op=57∨op=58∨op=59∨op=55∨op=56∨op=63∨op=48∨op=47∨op=50∨op=62∨op=49∨op=67∨op=46∨op=45∨op=44∨op=51∨op=52∨op=61∨op=54∨op=38∨op=39∨op=40∨op=41∨op=42∨op=43:=by
  rcases h with h|h
  ·simp only[rt.isBin,Bool.or_eq_true,beq_iff_eq]at h
   omega
  ·omega
 rcases hc with e|e|e|e|e|e|e|e|e|e|e|e|e|e|e|e|e|e|e|e|e|e|e|e|e|e<;>subst e<;>exact⟨sym_ok (by decide) (by decide),by decide,by decide,by decide⟩
def cnt:Int→List Tk→Nat
 |_,[]=>0
 |q,t::T=>pb.one t.k q+cnt t.k T
def Cn(T:List Tk)(N:Nat):Prop:=∀q:Int,¬q=7→¬q=8→∃c:Int,¬c=7∧¬c=8∧∀rest,cnt q (T++rest)=N+cnt c rest
theorem Cn.nil:Cn [] 0:=fun q h7 h8=>⟨q,h7,h8,fun _=>by simp⟩
theorem Cn.app{T U:List Tk}{N M:Nat}(h:Cn T N)(h':Cn U M):Cn (T++U) (N+M):=by
 intro q h7 h8
 obtain⟨c,c7,c8,c4⟩:=h q h7 h8
 obtain⟨d,d7,d8,d4⟩:=h' c c7 c8
 exact⟨d,d7,d8,fun rest=>by rw[List.append_assoc,c4,d4];omega⟩
theorem Cn.sym{t:Tk}(h:¬t.k=32)(h7:¬t.k=7)(h8:¬t.k=8):Cn [t] 0:=fun q _ _=>⟨t.k,h7,h8,fun rest=>by
 show pb.one t.k q+cnt t.k rest=_
 rw[pb.one_no h]⟩
theorem Cn.paren:Cn [tok 32] 1:=fun q h7 h8=>⟨32,by decide,by decide,fun rest=>by
 show pb.one 32 q+cnt 32 rest=_
 rw[pb.one_yes h7 h8]⟩
theorem Cn.fn{t:Tk}(h:t.k=7∨t.k=8){T:List Tk}{N:Nat}(hT:Cn T N):Cn (t::tok 32::T) N:=by
 intro q _ _
 obtain⟨c,c7,c8,c4⟩:=hT 32 (by decide) (by decide)
 refine⟨c,c7,c8,fun rest=> ?_⟩
 show pb.one t.k q+(pb.one 32 t.k+cnt 32 (T++rest))=_
 rw[c4,pb.one_no (by omega)]
 rcases h with h|h<;>rw[h]
 ·rw[pb.one_f];omega
 ·rw[pb.one_b];omega
def Le(T U:List Tk):Prop:=∃N M,Cn T N∧Cn U M∧N≤M
theorem Le.app{T U T' U':List Tk}(h:Le T U)(h':Le T' U'):Le (T++T') (U++U'):=by
 obtain⟨N,M,a,b,c⟩:=h
 obtain⟨N',M',a',b',c'⟩:=h'
 exact⟨_,_,a.app a',b.app b',by omega⟩
theorem Le.same{T:List Tk}{N:Nat}(h:Cn T N):Le T T:=⟨N,N,h,h,Nat.le_refl _⟩
theorem Le.sym{t:Tk}(h:¬t.k=32)(h7:¬t.k=7)(h8:¬t.k=8):Le [t] [t]:=Le.same (Cn.sym h h7 h8)
theorem Le.nam{k:Int}{s:ByteArray}(h:¬k=32)(h7:¬k=7)(h8:¬k=8):Le [et.nam k s] [et.nam k s]:=Le.sym (t:=et.nam k s) h h7 h8
theorem Le.fn{t:Tk}(h:t.k=7∨t.k=8){T U:List Tk}(hT:Le T U):Le (t::tok 32::T) (t::tok 32::U):=by
 obtain⟨N,M,a,b,c⟩:=hT
 exact⟨N,M,Cn.fn h a,Cn.fn h b,c⟩
theorem Le.both{T U:List Tk}(h:Le T U):Le (tok 32::(T++[tok 33])) (tok 32::(U++[tok 33])):=
 Le.app (T:=[tok 32]) (U:=[tok 32]) (Le.same Cn.paren) (Le.app h (Le.sym (t:=tok 33) (by decide) (by decide) (by decide)))
theorem Le.more{T U:List Tk}(h:Le T U):Le T (tok 32::(U++[tok 33])):=by
 obtain⟨N,M,a,b,c⟩:=h
 exact⟨N,1+(M+0),a,Cn.app (T:=[tok 32]) Cn.paren (b.app (Cn.sym (t:=tok 33) (by decide) (by decide) (by decide))),by omega⟩
theorem Le.lst{E E':Nat→Ps→List Tk}{n:Nd}(hE:∀j,j<n.kids.length→Le (E (kd n j) top) (E' (kd n j) top)):∀J,J≤n.kids.length→Le (lst E n J) (lst E' n J):=by
 intro J
 induction J with
 |zero=>intro _;exact Le.same Cn.nil
 |succ J ih=>
  intro hJ
  refine Le.app (Le.app (ih (by omega)) ?_) (hE J (by omega))
  show Le (if J=0 then[]else[tok 36]) (if J=0 then[]else[tok 36])
  split
  ·exact Le.same Cn.nil
  ·exact Le.sym (t:=tok 36) (by decide) (by decide) (by decide)
end Go.Proofs.YtnoagleifffkcaaGreatDoor.rb
