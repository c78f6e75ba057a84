/-

-/
import Derived.Test.YtnoagleifffkcaaGreatDoorZoGRb
import Derived.Test.YtnoagleifffkcaaGreatDoorZoGWx
namespace Go.Proofs.YtnoagleifffkcaaGreatDoor.rb
open Go.RowKit
open nd (Nd)
open tk (Tk)
open ps (Ps posOk top)
open lv (levelOf opLevel)
open rt (treeOk isExpr isLval)
open pe (tx ft sk behind isLen)
open et (kp kd Good)
set_option linter.unusedVariables false
set_option linter.unusedSimpArgs false
set_option maxRecDepth 20000
section
variable (L:List Tk) (l:List Nd)
def tkn(k:Int)(s:ByteArray)(a:Option Nat):Option Nat:=a.bind fun a=>if pe.kd L a=k∧tx L a=s∧a<L.length then some (a+1)else none
def sym(k:Int)(a:Option Nat):Option Nat:=tkn L k (spell.spell k) a
def lnF:Nat→Nat→Nat
 |0,a=>a
 |g+1,a=>if pe.kd L a=1 then lnF g (a+1)else a
def ln(a:Option Nat):Option Nat:=a.map (lnF L L.length)
def lsD(D:Nat→Nat→Ps→Option Nat):List Int→Option Nat→Option Nat
 |[],a=>a
 |k::r,a=>lsD D r ((ln L (sym L 36 a)).bind fun a=>D k.toNat a top)
def brD(D:Nat→Nat→Ps→Option Nat)(ks:List Int)(x y:Int)(a:Option Nat):Option Nat:=
 sym L y (match ks with
  |[]=>sym L x a
  |k::r=>lsD L D r ((sym L x a).bind fun a=>D k.toNat a top))
def kidD(D:Nat→Nat→Ps→Option Nat)(n:Nd)(K:Nat)(p:Ps)(a:Option Nat):Option Nat:=a.bind fun a=>D (kd n K) a (kp n K p)
def opD(op:Int)(a:Option Nat):Option Nat:=if op=99 then a else if op=44∨op=45 then ln L (sym L op a)else sym L op a
def bodyD(D U:Nat→Nat→Ps→Option Nat)(n:Nd)(a:Nat)(p:Ps):Option Nat:=
 if n.k=1 then tkn L 6 n.s (some a)
 else if n.k=2 then tkn L 3 n.s (some a)
 else if n.k=3 then tkn L 4 n.s (some a)
 else if n.k=4 then tkn L 5 n.s (some a)
 else if n.k=5 then brD L D n.kids 34 35 (tkn L 6 n.s (some a))
 else if n.k=7 then brD L D n.kids 32 33 (tkn L 7 n.s (some a))
 else if n.k=8 then(if isLen n.s=true∧n.kids=[]∧sym L 32 (tkn L 8 n.s (some a))=none then tkn L 8 n.s (some a)else brD L D n.kids 32 33 (tkn L 8 n.s (some a)))
 else if n.k=6 then kidD D n 0 p (sym L 68 (some a))
 else if n.k=11 then kidD D n 0 p (sym L n.op (some a))
 else if n.k=9 then kidD U n 0 p (sym L n.op (some a))
 else if n.k=10 then sym L n.op (kidD U n 0 p (some a))
 else if n.k=15 then kidD D n 1 p (sym L n.op (kidD U n 0 p (some a)))
 else if n.k=13 then tkn L 6 n.s (sym L 24 (if 1<n.kids.length then brD L D n.kids 32 33 (some a)else kidD D n 0 p (some a)))
 else if n.k=14 then kidD D n 2 p (sym L 66 (kidD D n 1 p (sym L 65 (kidD D n 0 p (some a)))))
 else kidD D n 1 p (opD L n.op (kidD D n 0 p (some a)))
def dnF(U:Nat→Nat→Ps→Option Nat):Nat→Nat→Nat→Ps→Option Nat
 |0,_,_,_=>none
 |g+1,i,a,p=>match (if ft (l.getD i default).k (l.getD i default).op p=true then U i a p else none)with
  |some e=>some e
  |none=>sym L 33 ((sym L 32 (some a)).bind fun c=>dnF U g i c top)
def unD:Nat→Nat→Nat→Ps→Option Nat
 |0,_,_,_=>none
 |f+1,i,a,p=>bodyD L (dnF L l (unD f) (L.length+1)) (unD f) (l.getD i default) a p
end
section
variable {L:List Tk} {l:List Nd}
theorem tkn_some{k:Int}{s:ByteArray}{a:Option Nat}{b:Nat}(h:tkn L k s a=some b):∃a',a=some a'∧pe.kd L a'=k∧tx L a'=s∧a'<L.length∧b=a'+1:=by
 unfold tkn at h
 cases a with
 |none=>cases h
 |some a=>
  simp only[Option.bind_some]at h
  split at h
  ·next hc=>injection h with h;exact⟨a,rfl,hc.1,hc.2.1,hc.2.2,h.symm⟩
  ·cases h
theorem bind_some'{a:Option Nat}{F:Nat→Option Nat}{b:Nat}(h:a.bind F=some b):∃c,a=some c∧F c=some b:=by
 cases a with
 |none=>cases h
 |some c=>exact⟨c,rfl,h⟩
theorem lnF_sk:∀g a,hd (pe.kd L (lnF L g a))=true→pe.skp L g a=lnF L g a:=by
 intro g
 induction g with
 |zero=>intro a _;rfl
 |succ g ih=>
  intro a h
  unfold lnF at h⊢
  unfold pe.skp
  by_cases h1:pe.kd L a=1
  ·rw[if_pos h1]at h⊢
   rw[if_pos (Or.inl h1)]
   exact ih _ h
  ·rw[if_neg h1]at h⊢
   rw[if_neg]
   rintro(e|e)
   ·exact h1 e
   ·rw[e]at h;exact absurd h (by decide)
theorem ln_some{a:Option Nat}{b:Nat}(h:ln L a=some b):∃c,a=some c∧b=lnF L L.length c:=by
 unfold ln at h
 cases a with
 |none=>cases h
 |some c=>injection h with h;exact⟨c,rfl,h.symm⟩
theorem lsD_none{D:Nat→Nat→Ps→Option Nat}:∀r:List Int,lsD L D r none=none:=by
 intro r
 induction r with
 |nil=>rfl
 |cons k r ih=>unfold lsD;exact ih
theorem ls_sound{D:Nat→Nat→Ps→Option Nat}{R:Nat→Ps→Nat→Nat→Prop}:∀(r:List Int) (k:Int) (a b:Nat),(∀k'∈k::r,∀a b,D k'.toNat a top=some b→R k'.toNat top a b∧hd (pe.kd L a)=true)→lsD L D r (D k.toNat a top)=some b→Ls L R (k::r) a b:=by
 intro r
 induction r with
 |nil=>
  intro k a b hD h
  exact⟨b,(hD k (List.mem_cons_self ..) a b h).1,.inl ⟨rfl,rfl⟩⟩
 |cons k2 r ih=>
  intro k a b hD h
  unfold lsD at h
  have hm:∃m,D k.toNat a top=some m:=by
   cases hq:D k.toNat a top with
   |some m=>exact⟨m,rfl⟩
   |none=>
    exfalso
    rw[hq]at h
    have e:((ln L (sym L 36 none)).bind fun a=>D k2.toNat a top)=none:=rfl
    rw[e,lsD_none]at h
    cases h
  obtain⟨m,hm⟩:=hm
  rw[hm]at h
  have hs:∃c,sym L 36 (some m)=some c:=by
   cases hq:sym L 36 (some m)with
   |some c=>exact⟨c,rfl⟩
   |none=>
    exfalso
    rw[hq]at h
    have e:((ln L none).bind fun a=>D k2.toNat a top)=none:=rfl
    rw[e,lsD_none]at h
    cases h
  obtain⟨c,hs⟩:=hs
  obtain⟨m',e1,e2,e3,e4,rfl⟩:=tkn_some hs
  injection e1 with e1
  subst e1
  rw[hs]at h
  have h:lsD L D r (D k2.toNat (lnF L L.length (m+1)) top)=some b:=h
  have hrest:=ih k2 _ b (fun k' hk=>hD k' (List.mem_cons_of_mem _ hk)) h
  obtain⟨m2,hx⟩:∃m2,D k2.toNat (lnF L L.length (m+1)) top=some m2:=by
   cases hq:D k2.toNat (lnF L L.length (m+1)) top with
   |some x=>exact⟨x,rfl⟩
   |none=>
    exfalso
    rw[hq]at h
    rw[lsD_none]at h
    cases h
  have hh:=(hD k2 (List.mem_cons_of_mem _ (List.mem_cons_self ..)) _ _ hx).2
  refine⟨m,(hD k (List.mem_cons_self ..) a m hm).1,.inr ⟨List.cons_ne_nil _ _,e2, ?_⟩⟩
  rw[show sk L (m+1)=lnF L L.length (m+1)from lnF_sk _ _ hh]
  exact hrest
theorem brD_none{D:Nat→Nat→Ps→Option Nat}{ks:List Int}{x y:Int}:brD L D ks x y none=none:=by
 unfold brD
 cases ks with
 |nil=>rfl
 |cons k r=>
  have e:lsD L D r ((sym L x none).bind fun a=>D k.toNat a top)=none:=lsD_none r
  show sym L y (lsD L D r ((sym L x none).bind fun a=>D k.toNat a top))=none
  rw[e]
  rfl
theorem br_sound{D:Nat→Nat→Ps→Option Nat}{R:Nat→Ps→Nat→Nat→Prop}{ks:List Int}{x y:Int}{a b:Nat}(hR:∀i p a b,R i p a b→a<b∧b≤L.length)(hD:∀k'∈ks,∀a b,D k'.toNat a top=some b→R k'.toNat top a b∧hd (pe.kd L a)=true)(h:brD L D ks x y (some a)=some b):Br L R ks x y a b∧a<L.length∧b≤L.length∧a<b:=by
 unfold brD at h
 obtain⟨m,h1,h2,h3,h4,rfl⟩:=tkn_some h
 cases ks with
 |nil=>
  obtain⟨a',e1,e2,e3,e4,rfl⟩:=tkn_some h1
  injection e1 with e1
  subst e1
  exact⟨⟨e2,_,rfl,h2,rfl⟩,e4,by omega,by omega⟩
 |cons k r=>
  have h1:lsD L D r ((sym L x (some a)).bind fun a=>D k.toNat a top)=some m:=h1
  obtain⟨c,hs⟩:∃c,sym L x (some a)=some c:=by
   cases hq:sym L x (some a)with
   |some c=>exact⟨c,rfl⟩
   |none=>
    exfalso
    rw[hq]at h1
    have e:((none:Option Nat).bind fun a=>D k.toNat a top)=none:=rfl
    rw[e,lsD_none]at h1
    cases h1
  obtain⟨a',e1,e2,e3,e4,rfl⟩:=tkn_some hs
  injection e1 with e1
  subst e1
  rw[hs]at h1
  have h1:lsD L D r (D k.toNat (a+1) top)=some m:=h1
  have hL:=ls_sound r k (a+1) m hD h1
  have hlt:=Ls.lt hR _ _ _ (List.cons_ne_nil _ _) hL
  exact⟨⟨e2,m,hL,h2,rfl⟩,e4,by omega,by omega⟩
theorem dn_sound{U:Nat→Nat→Ps→Option Nat}{f:Nat}{i:Nat}(hU:∀p a b,U i a p=some b→Un L l f i p a b):∀g p a b,dnF L l U g i a p=some b→Dv L l (Un L l f) i p a b:=by
 intro g
 induction g with
 |zero=>intro p a b h;cases h
 |succ g ih=>
  intro p a b h
  unfold dnF at h
  cases hq:(if ft (l.getD i default).k (l.getD i default).op p=true then U i a p else none)with
  |some e=>
   rw[hq]at h
   injection h with h
   subst h
   split at hq
   ·next hf=>
    have:=hU _ _ _ hq
    exact⟨this.lt.1,this.lt.2,.inl ⟨hf,this⟩⟩
   ·cases hq
  |none=>
   rw[hq]at h
   obtain⟨c,h1,h2,h3,h4,rfl⟩:=tkn_some h
   obtain⟨a1,h5,h6⟩:=bind_some' h1
   obtain⟨a',e1,e2,e3,e4,rfl⟩:=tkn_some h5
   injection e1 with e1
   subst e1
   obtain⟨d1,d2,⟨-,hu⟩|⟨m,hP⟩⟩:=ih _ _ _ h6
   ·exact⟨by omega,by omega,.inr ⟨0,e2,c,hu,h2,rfl⟩⟩
   ·exact⟨by omega,by omega,.inr ⟨m+1,e2,c,hP,h2,rfl⟩⟩
theorem un_sound(ht:treeOk l=true)(h32:∀j,pe.kd L j=32→tx L j=spell.spell 32):∀f i p a b,i<l.length→isExpr (l.getD i default).k=true→unD L l f i a p=some b→Un L l f i p a b:=by
 intro f
 induction f with
 |zero=>intro i p a b _ _ h;cases h
 |succ f ih=>
  intro i p a b hi hk h
  obtain⟨n,hn⟩:∃n,l.getD i default=n:=⟨_,rfl⟩
  have y:=hk
  unfold unD at h
  rw[hn]at hk h
  show a<b∧b≤L.length∧Bd L (Dv L l (Un L l f)) (Un L l f) (l.getD i default) p a b
  rw[hn]
  have hG:=et.Good.at ht hi hn hk
  obtain⟨-,-,-,ho,-⟩:=flds ht hi hn hk
  have hr:=et.expr_range hk
  have hkid:∀j,j<n.kids.length→kd n j<l.length∧isExpr (l.getD (kd n j) default).k=true:=fun j hj=>⟨Nat.lt_trans (hG.kids j hj).1 hi,(hG.kids j hj).2.2⟩
  have hR:∀i p a b,Dv L l (Un L l f) i p a b→a<b∧b≤L.length:=fun i p a b h=>⟨h.1,h.2.1⟩
  have hE:∀j,j<n.kids.length→∀q a b,dnF L l (unD L l f) (L.length+1) (kd n j) a q=some b→Dv L l (Un L l f) (kd n j) q a b∧hd (pe.kd L a)=true:=fun j hj q a b h=>by
   have:=dn_sound (f:=f) (fun p a b h=>ih _ p a b (hkid j hj).1 (hkid j hj).2 h) _ _ _ _ h
   exact⟨this,(hd_dv ht (hkid j hj).1 (hkid j hj).2 this).1⟩
  have hT:∀k'∈n.kids,∀a b,dnF L l (unD L l f) (L.length+1) k'.toNat a top=some b→Dv L l (Un L l f) k'.toNat top a b∧hd (pe.kd L a)=true:=fun k' hk' a b h=>by
   obtain⟨j,hj,rfl⟩:=List.mem_iff_getElem.1 hk'
   have e:n.kids[j].toNat=kd n j:=by unfold kd;rw[List.getD_eq_getElem?_getD,List.getElem?_eq_getElem];rfl
   rw[e]at h⊢
   exact hE j hj top a b h
  have hD:∀(K:Nat) (x:Option Nat) b,K<n.kids.length→kidD (dnF L l (unD L l f) (L.length+1)) n K p x=some b→∃c,x=some c∧Dv L l (Un L l f) (kd n K) (kp n K p) c b∧hd (pe.kd L c)=true:=fun K x b hK h=>by
   obtain⟨c,h1,h2⟩:=bind_some' h
   exact⟨c,h1,hE K hK _ c b h2⟩
  have hV:∀(x:Option Nat) b,0<n.kids.length→kidD (unD L l f) n 0 p x=some b→∃c,x=some c∧Un L l f (kd n 0) (kp n 0 p) c b:=fun x b hK h=>by
   obtain⟨c,h1,h2⟩:=bind_some' h
   exact⟨c,h1,ih _ _ _ _ (hkid 0 hK).1 (hkid 0 hK).2 h2⟩
  have hcase:n.k=1∨n.k=2∨n.k=3∨n.k=4∨n.k=5∨n.k=6∨n.k=7∨n.k=8∨n.k=9∨n.k=10∨n.k=11∨n.k=12∨n.k=13∨n.k=14∨n.k=15:=by omega
  unfold bodyD at h
  have k1:n.k=6∨n.k=9∨n.k=10∨n.k=11→0<n.kids.length:=fun h=>by rw[hG.one h];exact Nat.one_pos
  rcases hcase with c|c|c|c|c|c|c|c|c|c|c|c|c|c|c<;>simp only[c,Int.reduceEq,if_true,if_false,reduceIte]at h
  ·obtain⟨a',e1,e2,e3,e4,rfl⟩:=tkn_some h
   injection e1 with e1;subst e1
   refine⟨by omega,by omega, ?_⟩
   constructor<;>intro e<;>first|(exfalso;omega)|exact⟨e2,e3,rfl⟩
  ·obtain⟨a',e1,e2,e3,e4,rfl⟩:=tkn_some h
   injection e1 with e1;subst e1
   refine⟨by omega,by omega, ?_⟩
   constructor<;>intro e<;>first|(exfalso;omega)|exact⟨e2,e3,rfl⟩
  ·obtain⟨a',e1,e2,e3,e4,rfl⟩:=tkn_some h
   injection e1 with e1;subst e1
   refine⟨by omega,by omega, ?_⟩
   constructor<;>intro e<;>first|(exfalso;omega)|exact⟨e2,e3,rfl⟩
  ·obtain⟨a',e1,e2,e3,e4,rfl⟩:=tkn_some h
   injection e1 with e1;subst e1
   refine⟨by omega,by omega, ?_⟩
   constructor<;>intro e<;>first|(exfalso;omega)|exact⟨e2,e3,rfl⟩
  ·obtain⟨w,hw⟩:∃w,tkn L 6 n.s (some a)=some w:=by
    cases hq:tkn L 6 n.s (some a)with
    |some w=>exact⟨w,rfl⟩
    |none=>rw[hq]at h;rw[brD_none]at h;cases h
   obtain⟨a',e1,e2,e3,e4,rfl⟩:=tkn_some hw
   injection e1 with e1;subst e1
   rw[hw]at h
   obtain⟨h1,h2,h3,h4⟩:=br_sound hR hT h
   refine⟨by omega,h3, ?_⟩
   constructor<;>intro e<;>first|(exfalso;omega)|exact⟨e2,e3,h1⟩
  ·obtain⟨c',h1,h2,-⟩:=hD 0 _ _ (k1 (by omega)) h
   obtain⟨a',e1,e2,e3,e4,rfl⟩:=tkn_some h1
   injection e1 with e1;subst e1
   have:=h2.1
   refine⟨by omega,h2.2.1, ?_⟩
   constructor<;>intro e<;>first|(exfalso;omega)|exact⟨e2,h2⟩
  ·obtain⟨w,hw⟩:∃w,tkn L 7 n.s (some a)=some w:=by
    cases hq:tkn L 7 n.s (some a)with
    |some w=>exact⟨w,rfl⟩
    |none=>rw[hq]at h;rw[brD_none]at h;cases h
   obtain⟨a',e1,e2,e3,e4,rfl⟩:=tkn_some hw
   injection e1 with e1;subst e1
   rw[hw]at h
   obtain⟨h1,h2,h3,h4⟩:=br_sound hR hT h
   refine⟨by omega,h3, ?_⟩
   constructor<;>intro e<;>first|(exfalso;omega)|exact⟨e2,e3,h1⟩
  ·obtain⟨w,hw⟩:∃w,tkn L 8 n.s (some a)=some w:=by
    cases hq:tkn L 8 n.s (some a)with
    |some w=>exact⟨w,rfl⟩
    |none=>
     rw[hq]at h
     split at h
     ·cases h
     ·rw[brD_none]at h;cases h
   obtain⟨a',e1,e2,e3,e4,rfl⟩:=tkn_some hw
   injection e1 with e1;subst e1
   rw[hw]at h
   split at h
   ·next hc=>
    injection h with h;subst h
    have hno:¬pe.kd L (a+1)=32:=fun e=>by
     have hlt:=pe.kd_lt (l:=L) (i:=a+1) (by omega)
     have hs:=hc.2.2
     unfold sym tkn at hs
     simp only[Option.bind_some]at hs
     rw[if_pos ⟨e,h32 _ e,hlt⟩]at hs
     cases hs
    refine⟨by omega,by omega, ?_⟩
    constructor<;>intro e<;>first|(exfalso;omega)|exact⟨e2,e3,.inl ⟨hc.1,hc.2.1,hno,rfl⟩⟩
   ·obtain⟨h1,h2,h3,h4⟩:=br_sound hR hT h
    refine⟨by omega,h3, ?_⟩
    constructor<;>intro e<;>first|(exfalso;omega)|exact⟨e2,e3,.inr h1⟩
  ·obtain⟨c',h1,h2⟩:=hV _ _ (k1 (by omega)) h
   obtain⟨a',e1,e2,e3,e4,rfl⟩:=tkn_some h1
   injection e1 with e1;subst e1
   have:=h2.lt
   refine⟨by omega,this.2, ?_⟩
   constructor<;>intro e<;>first|(exfalso;omega)|exact⟨e2,h2⟩
  ·obtain⟨m,h1,e2,e3,e4,rfl⟩:=tkn_some h
   obtain⟨c',e1,h2⟩:=hV _ _ (k1 (by omega)) h1
   injection e1 with e1;subst e1
   have:=h2.lt
   refine⟨by omega,by omega, ?_⟩
   constructor<;>intro e<;>first|(exfalso;omega)|exact⟨m,h2,e2,rfl⟩
  ·obtain⟨c',h1,h2,-⟩:=hD 0 _ _ (k1 (by omega)) h
   obtain⟨a',e1,e2,e3,e4,rfl⟩:=tkn_some h1
   injection e1 with e1;subst e1
   have:=h2.1
   refine⟨by omega,h2.2.1, ?_⟩
   constructor<;>intro e<;>first|(exfalso;omega)|exact⟨e2,h2⟩
  ·have hlen:=hG.two (.inl c)
   obtain⟨c1,h1,h2,hh⟩:=hD 1 _ _ (by omega) h
   have l2:=h2.1
   unfold opD at h1
   by_cases h99:n.op=99
   ·rw[if_pos h99]at h1
    obtain⟨c0,e1,h3,-⟩:=hD 0 _ _ (by omega) h1
    injection e1 with e1;subst e1
    have:=h3.1
    refine⟨by omega,h2.2.1, ?_⟩
    constructor<;>intro e<;>first|(exfalso;omega)|exact⟨c1,h3,.inl ⟨h99,h2⟩⟩
   ·rw[if_neg h99]at h1
    have key:∃m,kidD (dnF L l (unD L l f) (L.length+1)) n 0 p (some a)=some m∧pe.kd L m=n.op∧c1=behind L n.op m∧m<L.length:=by
     unfold behind
     split at h1
     ·next ho2=>
      obtain⟨x,hx,rfl⟩:=ln_some h1
      obtain⟨m,e1,e2,e3,e4,rfl⟩:=tkn_some hx
      refine⟨m,e1,e2, ?_,e4⟩
      rw[if_pos ho2]
      exact(lnF_sk _ _ hh).symm
     ·next ho2=>
      obtain⟨m,e1,e2,e3,e4,rfl⟩:=tkn_some h1
      exact⟨m,e1,e2,by rw[if_neg ho2],e4⟩
    obtain⟨m,g1,g2,g3,g4⟩:=key
    obtain⟨c0,e1,h3,-⟩:=hD 0 _ _ (by omega) g1
    injection e1 with e1;subst e1
    have:=h3.1
    subst g3
    have hbeh:m≤behind L n.op m:=by
     unfold behind
     split
     ·have:=(pe.sk_le (l:=L) (i:=m+1) (by omega)).1;omega
     ·omega
    refine⟨by omega,h2.2.1, ?_⟩
    constructor<;>intro e<;>first|(exfalso;omega)|exact⟨m,h3,.inr ⟨h99,g2,h2⟩⟩
  ·obtain⟨m1,h1,e2,e3,e4,rfl⟩:=tkn_some h
   obtain⟨m,g1,f2,f3,f4,rfl⟩:=tkn_some h1
   by_cases hm:1<n.kids.length
   ·rw[if_pos hm]at g1
    obtain⟨h1,h2,h3,h4⟩:=br_sound hR hT g1
    refine⟨by omega,by omega, ?_⟩
    constructor<;>intro e<;>first|(exfalso;omega)|exact⟨fun h'=>by omega,fun _=>⟨m,h1,f2,e2,e3,rfl⟩⟩
   ·rw[if_neg hm]at g1
    have hl:=hG.least (.inr c)
    obtain⟨c0,k0,k2,-⟩:=hD 0 _ _ (by omega) g1
    injection k0 with k0;subst k0
    have:=k2.1
    refine⟨by omega,by omega, ?_⟩
    constructor<;>intro e<;>first|(exfalso;omega)|exact⟨fun _=>⟨m,k2,f2,e2,e3,rfl⟩,fun h'=>absurd h' hm⟩
  ·have hlen:=hG.three c
   obtain⟨c2,h1,h2,-⟩:=hD 2 _ _ (by omega) h
   obtain⟨m',e1,e2,e3,e4,rfl⟩:=tkn_some h1
   obtain⟨c1,g1,g2,-⟩:=hD 1 _ _ (by omega) e1
   obtain⟨m,f1,f2,f3,f4,rfl⟩:=tkn_some g1
   obtain⟨c0,k0,k2,-⟩:=hD 0 _ _ (by omega) f1
   injection k0 with k0;subst k0
   have:=h2.1
   have:=g2.1
   have:=k2.1
   refine⟨by omega,h2.2.1, ?_⟩
   constructor<;>intro e<;>first|(exfalso;omega)|exact⟨m,m',k2,f2,g2,e2,h2⟩
  ·have hlen:=hG.two (.inr c)
   obtain⟨c1,h1,h2,-⟩:=hD 1 _ _ (by omega) h
   obtain⟨m,e1,e2,e3,e4,rfl⟩:=tkn_some h1
   obtain⟨c0,k0,k2⟩:=hV _ _ (by omega) e1
   injection k0 with k0;subst k0
   have:=h2.1
   have:=k2.lt
   refine⟨by omega,h2.2.1, ?_⟩
   constructor<;>intro e<;>first|(exfalso;omega)|exact⟨m,k2,e2,h2⟩
theorem der_sound(ht:treeOk l=true)(h32:∀j,pe.kd L j=32→tx L j=spell.spell 32){f i g:Nat}{p:Ps}{a b:Nat}(hi:i<l.length)(hk:isExpr (l.getD i default).k=true)(h:dnF L l (unD L l f) g i a p=some b):Dv L l (Un L l f) i p a b:=
 dn_sound (fun p a b h=>un_sound ht h32 f i p a b hi hk h) _ _ _ _ h
end
end Go.Proofs.YtnoagleifffkcaaGreatDoor.rb

namespace Go.Proofs.YtnoagleifffkcaaGreatDoor.rb
open Go.RowKit
open nd (Nd)
open tk (Tk)
open ps (Ps posOk top)
open lv (levelOf opLevel)
open rt (treeOk isExpr isLval)
open pe (tx ft isLen)
open et (kp kd Good tok nam lst brack body un par mis)
set_option linter.unusedVariables false
set_option linter.unusedSimpArgs false
set_option maxRecDepth 20000
section
variable {L:List Tk} {l:List Nd}
theorem tkn_at{k:Int}{s:ByteArray}{a:Nat}{z:Nat}{T:List Tk}(h:At L a (⟨k,s,z⟩::T)):tkn L k s (some a)=some (a+1):=by
 obtain⟨h1,h2,h3⟩:=h.hd
 unfold tkn
 simp only[Option.bind_some]
 rw[if_pos ⟨h1,h2,h3⟩]
theorem lnF_id:∀g a,¬pe.kd L a=1→lnF L g a=a:=by
 intro g a h
 cases g with
 |zero=>rfl
 |succ g=>exact if_neg h
theorem ls_comp{D:Nat→Nat→Ps→Option Nat}{E:Nat→Ps→List Tk}{n:Nd}{a:Nat}(hE:∀j,j<n.kids.length→∀a,At L a (E (kd n j) top)→D (kd n j) a top=some (a+(E (kd n j) top).length)∧hd (pe.kd L a)=true)(hA:At L a (lst E n n.kids.length)):∀d J,J+d=n.kids.length→0<J→lsD L D (n.kids.drop J) (some (a+(lst E n J).length))=some (a+(lst E n n.kids.length).length):=by
 intro d
 induction d with
 |zero=>
  intro J hJ _
  rw[List.drop_eq_nil_of_le (by omega),show J=n.kids.length by omega]
  rfl
 |succ d ih=>
  intro J hJ h0
  have hp:At L a (lst E n (J+1)):=lst_pre d (J+1) (by rw[show J+1+d=n.kids.length by omega];exact hA)
  have y:At L a ((lst E n J++(if J=0 then[]else[tok 36]))++E (kd n J) top):=hp
  rw[if_neg (by omega)]at y
  have F:=tkn_at (At.right y.left)
  have h1:=y.right
  rw[List.length_append,List.length_singleton,←Nat.add_assoc]at h1
  obtain⟨d1,d2⟩:=hE J (by omega) _ h1
  have hlen:(lst E n (J+1)).length=(lst E n J).length+1+(E (kd n J) top).length:=by
   show((lst E n J++(if J=0 then[]else[tok 36]))++E (kd n J) top).length=_
   rw[if_neg (by omega),List.length_append,List.length_append,List.length_singleton]
  have hk:n.kids[J].toNat=kd n J:=by unfold kd;rw[List.getD_eq_getElem?_getD,List.getElem?_eq_getElem];rfl
  rw[List.drop_eq_getElem_cons (by omega:J<n.kids.length)]
  unfold lsD
  have e1:sym L 36 (some (a+(lst E n J).length))=some (a+(lst E n J).length+1):=F
  have e2:ln L (some (a+(lst E n J).length+1))=some (a+(lst E n J).length+1):=by
   show some (lnF L L.length _)=_
   rw[lnF_id]
   intro e
   rw[e]at d2
   exact absurd d2 (by decide)
  rw[e1,e2,Option.bind_some,hk,d1]
  have:=ih (J+1) (by omega) (by omega)
  rw[hlen]at this
  rw[show a+(lst E n J).length+1+(E (kd n J) top).length=a+((lst E n J).length+1+(E (kd n J) top).length) by omega]
  exact this
theorem br_comp{D:Nat→Nat→Ps→Option Nat}{E:Nat→Ps→List Tk}{n:Nd}{a:Nat}{x y:Int}(hE:∀j,j<n.kids.length→∀a,At L a (E (kd n j) top)→D (kd n j) a top=some (a+(E (kd n j) top).length)∧hd (pe.kd L a)=true)(hA:At L a (brack E n x y)):brD L D n.kids x y (some a)=some (a+(brack E n x y).length):=by
 have hA:At L a (tok x::(lst E n n.kids.length++[tok y])):=hA
 have hx:sym L x (some a)=some (a+1):=tkn_at hA
 have h2:=hA.tl
 have hy:sym L y (some (a+1+(lst E n n.kids.length).length))=some (a+1+(lst E n n.kids.length).length+1):=tkn_at h2.right
 have e:(brack E n x y).length=(lst E n n.kids.length).length+1+1:=by simp[brack]
 rw[e,show a+((lst E n n.kids.length).length+1+1)=a+1+(lst E n n.kids.length).length+1 by omega,←hy]
 unfold brD
 congr 1
 by_cases h0:n.kids.length=0
 ·rw[List.length_eq_zero_iff.1 h0]
  exact hx
 ·have hk:n.kids=n.kids[0]::n.kids.drop 1:=by
   rw[←List.drop_eq_getElem_cons (by omega:0<n.kids.length)];rfl
  have F:n.kids[0].toNat=kd n 0:=by unfold kd;rw[List.getD_eq_getElem?_getD,List.getElem?_eq_getElem];rfl
  have h1:=lst_pre (E:=E) (n:=n) (a:=a+1) (n.kids.length-1) 1 (by rw[show 1+(n.kids.length-1)=n.kids.length by omega];exact h2.left)
  have G:At L (a+1) ([]++[]++E (kd n 0) top):=h1
  have d1:=(hE 0 (by omega) _ G).1
  have hc:=ls_comp hE h2.left (n.kids.length-1) 1 (by omega) Nat.one_pos
  have e1:(lst E n 1).length=(E (kd n 0) top).length:=by show([]++[]++E (kd n 0) top).length=_;rfl
  rw[e1]at hc
  rw[←hc]
  conv=>lhs;rw[hk]
  show lsD L D (n.kids.drop 1) ((sym L x (some a)).bind fun a=>D n.kids[0].toNat a top)=_
  rw[hx,Option.bind_some,F,d1]
theorem un_comp(ht:treeOk l=true)(h32:∀j,pe.kd L j=32→tx L j=spell.spell 32):∀f i p a,i<f→i<l.length→isExpr (l.getD i default).k=true→posOk p.l p.d=true→At L a (un mis l f i p)→unD L l f i a p=some (a+(un mis l f i p).length):=by
 intro f
 induction f with
 |zero=>intro i p a h;omega
 |succ f ih=>
  intro i p a hif hi hk hp hA
  rw[et.un_succ]at hA⊢
  unfold unD
  obtain⟨n,hn⟩:∃n,l.getD i default=n:=⟨_,rfl⟩
  rw[hn]at hk hA⊢
  have hG:=Good.at ht hi hn hk
  obtain⟨-,-,-,ho,-⟩:=flds ht hi hn hk
  have hr:=et.expr_range hk
  have hkid:∀j,j<n.kids.length→kd n j<f∧kd n j<l.length∧isExpr (l.getD (kd n j) default).k=true:=fun j hj=>⟨by have:=(hG.kids j hj).1;omega,Nat.lt_trans (hG.kids j hj).1 hi,(hG.kids j hj).2.2⟩
  have hE:∀j,j<n.kids.length→∀q a,posOk q.l q.d=true→At L a (et.ex mis l f (kd n j) q)→dnF L l (unD L l f) (L.length+1) (kd n j) a q=some (a+(et.ex mis l f (kd n j) q).length)∧hd (pe.kd L a)=true:=by
   intro j hj q a hq hA
   obtain⟨k1,k2,k3⟩:=hkid j hj
   have hft:∀q,ft (l.getD (kd n j) default).k (l.getD (kd n j) default).op q= !mis (l.getD (kd n j) default) q:=fun q=>by unfold mis ft;simp
   have hD:dnF L l (unD L l f) (L.length+1) (kd n j) a q=some (a+(et.ex mis l f (kd n j) q).length):=by
    unfold et.ex par at hA⊢
    unfold dnF
    rw[hft]
    by_cases hen:mis (l.getD (kd n j) default) q=true
    ·rw[if_pos hen]at hA⊢
     rw[hen]
     have h2:=hA.tl
     have P:0<L.length:=by have:=hA.hd.2.2;omega
     obtain⟨G,hG'⟩:∃G,L.length=G+1:=⟨L.length-1,by omega⟩
     have hU:=ih _ top _ k1 k2 k3 (by decide) h2.left
     have e3:sym L 32 (some a)=some (a+1):=tkn_at hA
     have e4:sym L 33 (some (a+1+(un mis l f (kd n j) top).length))=some (a+1+(un mis l f (kd n j) top).length+1):=tkn_at h2.right
     have e5:dnF L l (unD L l f) L.length (kd n j) (a+1) top=some (a+1+(un mis l f (kd n j) top).length):=by
      conv=>lhs;rw[hG']
      unfold dnF
      rw[ft_top k3 (et.level_some (Good.at ht k2 rfl k3)),if_pos rfl,hU]
     show sym L 33 ((sym L 32 (some a)).bind fun c=>dnF L l (unD L l f) L.length (kd n j) c top)=_
     rw[e3,Option.bind_some,e5,e4]
     congr 1
     simp
     omega
    ·rw[if_neg hen]at hA⊢
     have hen':mis (l.getD (kd n j) default) q=false:=by simpa using hen
     rw[hen',Bool.not_false,if_pos rfl,ih _ q a k1 k2 k3 hq hA]
   have hd':=der_sound ht h32 k2 k3 hD
   exact⟨hD,(hd_dv ht k2 k3 hd').1⟩
  have hT:∀j,j<n.kids.length→∀a,At L a (et.ex mis l f (kd n j) top)→dnF L l (unD L l f) (L.length+1) (kd n j) a top=some (a+(et.ex mis l f (kd n j) top).length)∧hd (pe.kd L a)=true:=fun j hj a h=>hE j hj top a (by decide) h
  have hpos:Open n→∀K:Int,0≤K∧K<(n.kids.length:Int)→posOk (kp n K p).l (kp n K p).d=true:=fun hO K hK=>(kp_ok hO ho hp hK).1
  have hU:Open n→0<n.kids.length→∀a,At L a (un mis l f (kd n 0) (kp n 0 p))→kidD (unD L l f) n 0 p (some a)=some (a+(un mis l f (kd n 0) (kp n 0 p)).length):=fun hO hj a hA=>by
   obtain⟨k1,k2,k3⟩:=hkid 0 hj
   exact ih _ _ a k1 k2 k3 (hpos hO 0 (by omega)) hA
  have hK:Open n→∀K:Nat,K<n.kids.length→∀a,At L a (et.ex mis l f (kd n K) (kp n K p))→kidD (dnF L l (unD L l f) (L.length+1)) n K p (some a)=some (a+(et.ex mis l f (kd n K) (kp n K p)).length)∧hd (pe.kd L a)=true:=fun hO K hj a hA=>hE K hj _ a (hpos hO K (by omega)) hA
  have k1:n.k=6∨n.k=9∨n.k=10∨n.k=11→0<n.kids.length:=fun h=>by rw[hG.one h];exact Nat.one_pos
  have hcase:n.k=1∨n.k=2∨n.k=3∨n.k=4∨n.k=5∨n.k=6∨n.k=7∨n.k=8∨n.k=9∨n.k=10∨n.k=11∨n.k=12∨n.k=13∨n.k=14∨n.k=15:=by omega
  unfold bodyD
  have cl:∀x y:Nat,x=y→(some x:Option Nat)=some y:=fun x y h=>by rw[h]
  rcases hcase with c|c|c|c|c|c|c|c|c|c|c|c|c|c|c<;>simp only[c,Int.reduceEq,if_true,if_false,reduceIte]
  ·rw[et.body_1 c]at hA⊢;exact tkn_at hA
  ·rw[et.body_2 c]at hA⊢;exact tkn_at hA
  ·rw[et.body_3 c]at hA⊢;exact tkn_at hA
  ·rw[et.body_4 c]at hA⊢;exact tkn_at hA
  ·rw[et.body_5 c]at hA⊢
   rw[tkn_at hA,br_comp hT hA.tl]
   exact cl _ _ (by simp;omega)
  ·rw[et.body_6 c]at hA⊢
   have e:sym L 68 (some a)=some (a+1):=tkn_at hA
   rw[e,(hK (by unfold Open;omega) 0 (k1 (by omega)) _ hA.tl).1]
   exact cl _ _ (by simp;omega)
  ·rw[et.body_7 c]at hA⊢
   rw[tkn_at hA,br_comp hT hA.tl]
   exact cl _ _ (by simp;omega)
  ·rw[et.body_8 c]at hA⊢
   have e:tkn L 8 n.s (some a)=some (a+1):=tkn_at hA
   have h2:At L (a+1) (tok 32::(lst (et.ex mis l f) n n.kids.length++[tok 33])):=hA.tl
   have e2:sym L 32 (some (a+1))=some (a+1+1):=tkn_at h2
   rw[e,e2,if_neg (fun h=>by cases h.2.2),br_comp hT hA.tl]
   exact cl _ _ (by simp;omega)
  ·rw[et.body_9 c]at hA⊢
   have e:sym L n.op (some a)=some (a+1):=tkn_at hA
   rw[e,hU (by unfold Open;omega) (k1 (by omega)) _ hA.tl]
   exact cl _ _ (by simp;omega)
  ·rw[et.body_10 c]at hA⊢
   rw[hU (by unfold Open;omega) (k1 (by omega)) _ hA.left]
   have e:sym L n.op (some (a+(un mis l f (kd n 0) (kp n 0 p)).length))=some (a+(un mis l f (kd n 0) (kp n 0 p)).length+1):=tkn_at hA.right
   rw[e]
   exact cl _ _ (by simp;omega)
  ·rw[et.body_11 c]at hA⊢
   have e:sym L n.op (some a)=some (a+1):=tkn_at hA
   rw[e,(hK (by unfold Open;omega) 0 (k1 (by omega)) _ hA.tl).1]
   exact cl _ _ (by simp;omega)
  ·rw[et.body_12 c]at hA⊢
   have hlen:=hG.two (.inl c)
   have hO:Open n:=by unfold Open;omega
   have h1:=(hK hO 0 (by omega) _ hA.left).1
   have O:kidD (dnF L l (unD L l f) (L.length+1)) n 0 p (some a)=some (a+(et.ex mis l f (kd n 0) (kp n 0 p)).length):=h1
   rw[O]
   have hR:=hA.right
   unfold opD
   by_cases h99:n.op=99
   ·rw[if_pos h99,List.nil_append]at hR
    have h2:kidD (dnF L l (unD L l f) (L.length+1)) n 1 p (some (a+(et.ex mis l f (kd n 0) (kp n 0 p)).length))=some (a+(et.ex mis l f (kd n 0) (kp n 0 p)).length+(et.ex mis l f (kd n 1) (kp n 1 p)).length):=(hK hO 1 (by omega) _ hR).1
    rw[if_pos h99,if_pos h99,h2]
    exact cl _ _ (by simp;omega)
   ·rw[if_neg h99]at hR
    have e:sym L n.op (some (a+(et.ex mis l f (kd n 0) (kp n 0 p)).length))=some (a+(et.ex mis l f (kd n 0) (kp n 0 p)).length+1):=tkn_at hR
    obtain⟨h2,h3⟩:=hK hO 1 (by omega) _ hR.tl
    have I:kidD (dnF L l (unD L l f) (L.length+1)) n 1 p (some (a+(et.ex mis l f (kd n 0) (kp n 0 p)).length+1))=some (a+(et.ex mis l f (kd n 0) (kp n 0 p)).length+1+(et.ex mis l f (kd n 1) (kp n 1 p)).length):=h2
    have e2:ln L (some (a+(et.ex mis l f (kd n 0) (kp n 0 p)).length+1))=some (a+(et.ex mis l f (kd n 0) (kp n 0 p)).length+1):=by
     show some (lnF L L.length _)=_
     rw[lnF_id]
     intro e
     rw[e]at h3
     exact absurd h3 (by decide)
    rw[if_neg h99,if_neg h99,e]
    split
    ·rw[e2,I]
     exact cl _ _ (by simp;omega)
    ·rw[I]
     exact cl _ _ (by simp;omega)
  ·rw[et.body_13 c]at hA⊢
   by_cases hm:1<n.kids.length
   ·rw[if_pos hm]at hA⊢
    rw[if_pos hm,br_comp hT hA.left]
    have hR:=hA.right
    have e:sym L 24 (some (a+(brack (et.ex mis l f) n 32 33).length))=some (a+(brack (et.ex mis l f) n 32 33).length+1):=tkn_at hR
    rw[e,tkn_at hR.tl]
    exact cl _ _ (by simp;omega)
   ·rw[if_neg hm]at hA⊢
    have S:n.kids.length=1:=by have:=hG.least (.inr c);omega
    have h1:kidD (dnF L l (unD L l f) (L.length+1)) n 0 p (some a)=some (a+(et.ex mis l f (kd n 0) (kp n 0 p)).length):=(hK (by unfold Open;omega) 0 (by omega) _ hA.left).1
    rw[if_neg hm,h1]
    have hR:=hA.right
    have e:sym L 24 (some (a+(et.ex mis l f (kd n 0) (kp n 0 p)).length))=some (a+(et.ex mis l f (kd n 0) (kp n 0 p)).length+1):=tkn_at hR
    rw[e,tkn_at hR.tl]
    exact cl _ _ (by simp;omega)
  ·rw[et.body_14 c]at hA⊢
   have hlen:=hG.three c
   have hO:Open n:=by unfold Open;omega
   have h1:kidD (dnF L l (unD L l f) (L.length+1)) n 0 p (some a)=some (a+(et.ex mis l f (kd n 0) (kp n 0 p)).length):=(hK hO 0 (by omega) _ hA.left).1
   have hR:=hA.right
   have e1:sym L 65 (some (a+(et.ex mis l f (kd n 0) (kp n 0 p)).length))=some (a+(et.ex mis l f (kd n 0) (kp n 0 p)).length+1):=tkn_at hR
   have J:=hR.tl
   have h2:kidD (dnF L l (unD L l f) (L.length+1)) n 1 p (some (a+(et.ex mis l f (kd n 0) (kp n 0 p)).length+1))=some (a+(et.ex mis l f (kd n 0) (kp n 0 p)).length+1+(et.ex mis l f (kd n 1) (kp n 1 p)).length):=(hK hO 1 (by omega) _ J.left).1
   have F:=J.right
   have e2:sym L 66 (some (a+(et.ex mis l f (kd n 0) (kp n 0 p)).length+1+(et.ex mis l f (kd n 1) (kp n 1 p)).length))=some (a+(et.ex mis l f (kd n 0) (kp n 0 p)).length+1+(et.ex mis l f (kd n 1) (kp n 1 p)).length+1):=tkn_at F
   have h3:kidD (dnF L l (unD L l f) (L.length+1)) n 2 p (some (a+(et.ex mis l f (kd n 0) (kp n 0 p)).length+1+(et.ex mis l f (kd n 1) (kp n 1 p)).length+1))=some (a+(et.ex mis l f (kd n 0) (kp n 0 p)).length+1+(et.ex mis l f (kd n 1) (kp n 1 p)).length+1+(et.ex mis l f (kd n 2) (kp n 2 p)).length):=(hK hO 2 (by omega) _ F.tl).1
   rw[h1,e1,h2,e2,h3]
   exact cl _ _ (by simp;omega)
  ·rw[et.body_15 c]at hA⊢
   have hlen:=hG.two (.inr c)
   have hO:Open n:=by unfold Open;omega
   rw[hU hO (by omega) _ hA.left]
   have hR:=hA.right
   have e1:sym L n.op (some (a+(un mis l f (kd n 0) (kp n 0 p)).length))=some (a+(un mis l f (kd n 0) (kp n 0 p)).length+1):=tkn_at hR
   have h2:kidD (dnF L l (unD L l f) (L.length+1)) n 1 p (some (a+(un mis l f (kd n 0) (kp n 0 p)).length+1))=some (a+(un mis l f (kd n 0) (kp n 0 p)).length+1+(et.ex mis l f (kd n 1) (kp n 1 p)).length):=(hK hO 1 (by omega) _ hR.tl).1
   rw[e1,h2]
   exact cl _ _ (by simp;omega)
theorem der_own(h:rt.exprOk l=true){p:Ps}(hp:posOk p.l p.d=true)(h32:∀j,pe.kd (tw.etoks l p) j=32→tx (tw.etoks l p) j=spell.spell 32):dnF (tw.etoks l p) l (unD (tw.etoks l p) l l.length) ((tw.etoks l p).length+1) (l.length-1) 0 p=some (tw.etoks l p).length:=by
 obtain⟨ht,h0,hk⟩:=tw.expr_parts h
 have hE:tw.etoks l p=et.ex mis l l.length (l.length-1) p:=by unfold tw.etoks;rw[if_pos ⟨h,hp⟩]
 have hif:l.length-1<l.length:=by omega
 obtain⟨T,hT⟩:∃T,tw.etoks l p=T:=⟨_,rfl⟩
 rw[hT]at h32⊢
 have hA:At T 0 (et.ex mis l l.length (l.length-1) p):=by rw[←hE,hT];exact At.self
 have hlen:T.length=(et.ex mis l l.length (l.length-1) p).length:=by rw[←hE,hT]
 rw[hlen]
 have hft:∀q,ft (l.getD (l.length-1) default).k (l.getD (l.length-1) default).op q= !mis (l.getD (l.length-1) default) q:=fun q=>by unfold mis ft;simp
 unfold et.ex par at hA⊢
 unfold dnF
 rw[hft]
 by_cases hen:mis (l.getD (l.length-1) default) p=true
 ·rw[if_pos hen]at hA
  rw[if_pos hen,hen]
  have h2:=hA.tl
  have hU:=un_comp ht h32 _ _ top _ hif hif hk (by decide) h2.left
  have e3:sym T 32 (some 0)=some (0+1):=tkn_at hA
  have e4:sym T 33 (some (0+1+(un mis l l.length (l.length-1) top).length))=some (0+1+(un mis l l.length (l.length-1) top).length+1):=tkn_at h2.right
  have hl:(tok 32::(un mis l l.length (l.length-1) top++[tok 33])).length=(un mis l l.length (l.length-1) top).length+1+1:=by simp
  have e5:dnF T l (unD T l l.length) (tok 32::(un mis l l.length (l.length-1) top++[tok 33])).length (l.length-1) (0+1) top=some (0+1+(un mis l l.length (l.length-1) top).length):=by
   rw[hl]
   unfold dnF
   rw[ft_top hk (et.level_some (Good.at ht hif rfl hk)),if_pos rfl,hU]
  show sym T 33 ((sym T 32 (some 0)).bind fun c=>dnF T l (unD T l l.length) (tok 32::(un mis l l.length (l.length-1) top++[tok 33])).length (l.length-1) c top)=_
  rw[e3,Option.bind_some,e5,e4,hl]
  congr 1
  omega
 ·rw[if_neg hen]at hA
  have hen':mis (l.getD (l.length-1) default) p=false:=by simpa using hen
  rw[if_neg hen,hen',Bool.not_false,if_pos rfl,un_comp ht h32 _ _ p _ hif hif hk hp hA,Nat.zero_add]
theorem der_one{x:List Nd}(h:rt.exprOk l=true)(hx:rt.exprOk x=true){p:Ps}(hp:posOk p.l p.d=true)(h32:∀j,pe.kd (tw.etoks l p) j=32→tx (tw.etoks l p) j=spell.spell 32){f g:Nat}(hd:dnF (tw.etoks l p) x (unD (tw.etoks l p) x f) g (x.length-1) 0 p=some (tw.etoks l p).length):l=x:=by
 obtain⟨ht,h0,hk⟩:=tw.expr_parts h
 obtain⟨ht',e,hk'⟩:=tw.expr_parts hx
 have hE:tw.etoks l p=et.ex mis l l.length (l.length-1) p:=by unfold tw.etoks;rw[if_pos ⟨h,hp⟩]
 have d1:=inst_ex (p:=p) (enc:=mis) ht (fun n q _ _ _ he=>by unfold mis at he;unfold ft;simpa using he) (show l.length-1<l.length by omega) (show l.length-1<l.length by omega) hk hp
 rw[←hE]at d1
 have d2:=der_sound ht' h32 (show x.length-1<x.length by omega) hk' hd
 have hend:pe.kd (tw.etoks l p) (tw.etoks l p).length=0:=pe.kd_end (Nat.le_refl _)
 have hF:Fol (pe.kd (tw.etoks l p) (tw.etoks l p).length) p:=fol_close (pos_range hp).1 (by rw[hend];decide)
 obtain⟨lv,tg,r1⟩:=read_dv (g:=(tw.etoks l p).length) ht (by omega) hk d1 hF (by rw[hend];decide) (by omega)
 obtain⟨lv',tg',r2⟩:=read_dv (g:=(tw.etoks l p).length) ht' (by omega) hk' d2 hF (by rw[hend];decide) (by omega)
 rw[r1,sub_all ht,sub_all ht']at r2
 injection r2
end
end Go.Proofs.YtnoagleifffkcaaGreatDoor.rb
