/-

-/
import Derived.Test.YtnoagleifffkcaaGreatDoorZoGDm
import Derived.Test.YtnoagleifffkcaaGreatDoorZoGBs
import Derived.Maps.OwnSet
import Derived.DeepKeys4
import Derived.Maps.Views
namespace Go.Proofs.YtnoagleifffkcaaGreatDoor.rb
open Go.RowKit
open nd (Nd)
open tk (Tk)
open ps (Ps posOk top)
open rt (treeOk isExpr isLval)
open pe (tx ft isLen)
open et (kp kd Good)
set_option linter.unusedVariables false
set_option linter.unusedSimpArgs false
set_option maxRecDepth 20000
section
variable (L:List Tk) (l:List Nd)
def bodyA(D U:Nat→Nat→Ps→Option Nat)(n:Nd)(a:Option Nat)(p:Ps):Option Nat:=a.bind fun a=>bodyD L D U n a p
def Uu(i:Nat)(a:Nat)(p:Ps):Option Nat:=unD L l (i+1) i a p
def Ee(i:Nat)(a:Nat)(p:Ps):Option Nat:=dnF L l (Uu L l) (L.length+1) i a p
end
section
variable {L:List Tk} {l:List Nd}
theorem lsD_congr{D D':Nat→Nat→Ps→Option Nat}:∀r:List Int,(∀k∈r,∀a p,D k.toNat a p=D' k.toNat a p)→∀a,lsD L D r a=lsD L D' r a:=by
 intro r
 induction r with
 |nil=>intro _ a;rfl
 |cons k r ih=>
  intro h a
  have e:(fun a=>D k.toNat a top)=fun a=>D' k.toNat a top:=funext fun a=>h k (List.mem_cons_self ..) a top
  unfold lsD
  rw[e]
  exact ih (fun k' hk=>h k' (List.mem_cons_of_mem _ hk)) _
theorem brD_congr{D D':Nat→Nat→Ps→Option Nat}{ks:List Int}(h:∀k∈ks,∀a p,D k.toNat a p=D' k.toNat a p)(x y:Int)(a:Option Nat):brD L D ks x y a=brD L D' ks x y a:=by
 unfold brD
 cases ks with
 |nil=>rfl
 |cons k r=>
  have e:(fun a=>D k.toNat a top)=fun a=>D' k.toNat a top:=funext fun a=>h k (List.mem_cons_self ..) a top
  show sym L y (lsD L D r ((sym L x a).bind fun a=>D k.toNat a top))=sym L y (lsD L D' r ((sym L x a).bind fun a=>D' k.toNat a top))
  rw[e,lsD_congr r (fun k' hk=>h k' (List.mem_cons_of_mem _ hk))]
theorem kidD_congr{D D':Nat→Nat→Ps→Option Nat}{n:Nd}{K:Nat}(h:∀a p,D (kd n K) a p=D' (kd n K) a p)(p:Ps)(a:Option Nat):kidD D n K p a=kidD D' n K p a:=by
 unfold kidD
 exact congrArg _ (funext fun a=>h a _)
theorem body_congr2{D D' U U':Nat→Nat→Ps→Option Nat}{i:Nat}{n:Nd}(hG:et.Good l i n)(hD:∀j,j<n.kids.length→∀a p,D (kd n j) a p=D' (kd n j) a p)(hU:∀j,j<n.kids.length→∀a p,U (kd n j) a p=U' (kd n j) a p)(a:Nat)(p:Ps):bodyD L D U n a p=bodyD L D' U' n a p:=by
 have hb:∀k∈n.kids,∀a p,D k.toNat a p=D' k.toNat a p:=fun k hk'=>by
  obtain⟨j,hj,rfl⟩:=List.mem_iff_getElem.1 hk'
  have e:n.kids[j].toNat=kd n j:=by unfold kd;rw[List.getD_eq_getElem?_getD,List.getElem?_eq_getElem hj];rfl
  rw[e]
  exact hD j hj
 have kD:∀j,j<n.kids.length→∀p a,kidD D n j p a=kidD D' n j p a:=fun j hj p a=>kidD_congr (hD j hj) p a
 have kU:∀j,j<n.kids.length→∀p a,kidD U n j p a=kidD U' n j p a:=fun j hj p a=>kidD_congr (hU j hj) p a
 have hr:=et.expr_range hG.kind
 unfold bodyD
 by_cases h1:n.k=1
 ·simp only[h1,if_true]
 by_cases h2:n.k=2
 ·simp[h2]
 by_cases h3:n.k=3
 ·simp[h3]
 by_cases h4:n.k=4
 ·simp[h4]
 by_cases h5:n.k=5
 ·simp[h5,brD_congr hb]
 by_cases h7:n.k=7
 ·simp[h7,brD_congr hb]
 by_cases h8:n.k=8
 ·simp[h8,brD_congr hb]
 by_cases h6:n.k=6
 ·have:=hG.one (.inl h6)
  simp[h6,kD 0 (by omega)]
 by_cases h11:n.k=11
 ·have:=hG.one (by omega)
  simp[h11,kD 0 (by omega)]
 by_cases h9:n.k=9
 ·have:=hG.one (by omega)
  simp[h9,kU 0 (by omega)]
 by_cases h10:n.k=10
 ·have:=hG.one (by omega)
  simp[h10,kU 0 (by omega)]
 by_cases h15:n.k=15
 ·have:=hG.two (by omega)
  simp[h15,kU 0 (by omega),kD 1 (by omega)]
 by_cases h13:n.k=13
 ·have:=hG.least (by omega)
  simp[h13,kD 0 (by omega),brD_congr hb]
 by_cases h14:n.k=14
 ·have:=hG.three (by omega)
  simp[h14,kD 0 (by omega),kD 1 (by omega),kD 2 (by omega)]
 have:=hG.two (by omega)
 simp[h1,h2,h3,h4,h5,h6,h7,h8,h9,h10,h11,h13,h14,h15,kD 0 (by omega),kD 1 (by omega)]
theorem dn_congr{U U':Nat→Nat→Ps→Option Nat}{i:Nat}(h:∀a p,U i a p=U' i a p):∀g a p,dnF L l U g i a p=dnF L l U' g i a p:=by
 intro g
 induction g with
 |zero=>intro a p;rfl
 |succ g ih=>
  intro a p
  unfold dnF
  rw[h a p,show(fun c=>dnF L l U g i c top)=fun c=>dnF L l U' g i c top from funext fun c=>ih c top]
theorem dn_stable{U:Nat→Nat→Ps→Option Nat}{i:Nat}:∀g a p,a≤L.length→L.length<g+a→dnF L l U g i a p=dnF L l U (g+1) i a p:=by
 intro g
 induction g with
 |zero=>intro a p h1 h2;omega
 |succ g ih=>
  intro a p h1 h2
  have e:((sym L 32 (some a)).bind fun c=>dnF L l U g i c top)=(sym L 32 (some a)).bind fun c=>dnF L l U (g+1) i c top:=by
   cases hs:sym L 32 (some a)with
   |none=>rfl
   |some c=>
    obtain⟨a',e1,_,_,e4,rfl⟩:=tkn_some hs
    injection e1 with e1
    subst e1
    exact ih _ _ (by omega) (by omega)
  conv=>lhs;unfold dnF
  conv=>rhs;unfold dnF
  rw[e]
theorem un_stable(ht:treeOk l=true):∀i,i<l.length→isExpr (l.getD i default).k=true→∀f,i<f→∀a p,unD L l f i a p=Uu L l i a p:=by
 intro i
 induction i using Nat.strongRecOn with
 |_ i ih=>
  intro hi hk f hf a p
  have hG:=et.Good.at ht hi rfl hk
  have key:∀g,i≤g→unD L l (g+1) i a p=bodyD L (Ee L l) (Uu L l) (l.getD i default) a p:=by
   intro g hg
   show bodyD L (dnF L l (unD L l g) (L.length+1)) (unD L l g) (l.getD i default) a p=_
   have hj:∀j,j<i→isExpr (l.getD j default).k=true→∀a p,unD L l g j a p=Uu L l j a p:=fun j hj hkj=>ih j hj (by omega) hkj g (by omega)
   refine body_congr2 hG (fun j hjk a p=> ?_) (fun j hjk a p=> ?_) a p
   ·exact dn_congr (fun a p=>hj _ (hG.kids j hjk).1 (hG.kids j hjk).2.2 a p) _ a p
   ·exact hj _ (hG.kids j hjk).1 (hG.kids j hjk).2.2 a p
  obtain⟨g,rfl⟩:∃g,f=g+1:=⟨f-1,by omega⟩
  rw[key g (by omega)]
  exact(key i (Nat.le_refl _)).symm
theorem Uu_eq(ht:treeOk l=true){i:Nat}(hi:i<l.length)(hk:isExpr (l.getD i default).k=true)(a:Nat)(p:Ps):Uu L l i a p=bodyD L (Ee L l) (Uu L l) (l.getD i default) a p:=by
 have hG:=et.Good.at ht hi rfl hk
 show bodyD L (dnF L l (unD L l i) (L.length+1)) (unD L l i) (l.getD i default) a p=_
 have hj:∀j,j<i→isExpr (l.getD j default).k=true→∀a p,unD L l i j a p=Uu L l j a p:=fun j hj hkj=>un_stable ht j (by omega) hkj i hj
 refine body_congr2 hG (fun j hjk a p=> ?_) (fun j hjk a p=> ?_) a p
 ·exact dn_congr (fun a p=>hj _ (hG.kids j hjk).1 (hG.kids j hjk).2.2 a p) _ a p
 ·exact hj _ (hG.kids j hjk).1 (hG.kids j hjk).2.2 a p
theorem Ee_eq{i a:Nat}(ha:a≤L.length)(p:Ps):Ee L l i a p=match (if ft (l.getD i default).k (l.getD i default).op p=true then Uu L l i a p else none)with
  |some e=>some e
  |none=>sym L 33 ((sym L 32 (some a)).bind fun c=>Ee L l i c top):=by
 have e:((sym L 32 (some a)).bind fun c=>dnF L l (Uu L l) L.length i c top)=(sym L 32 (some a)).bind fun c=>Ee L l i c top:=by
  cases hs:sym L 32 (some a)with
  |none=>rfl
  |some c=>
   obtain⟨a',e1,_,_,e4,rfl⟩:=tkn_some hs
   injection e1 with e1
   subst e1
   exact dn_stable _ _ _ (by omega) (by omega)
 show dnF L l (Uu L l) (L.length+1) i a p=_
 conv=>lhs;unfold dnF
 rw[e]
 rfl
theorem Ee_root(ht:treeOk l=true){i:Nat}(hi:i<l.length)(hk:isExpr (l.getD i default).k=true)(a:Nat)(p:Ps):dnF L l (unD L l l.length) (L.length+1) i a p=Ee L l i a p:=
 dn_congr (fun a p=>un_stable ht i hi hk l.length hi a p) _ a p
end
end Go.Proofs.YtnoagleifffkcaaGreatDoor.rb

namespace Go.Proofs.YtnoagleifffkcaaGreatDoor.dm
open Go.ChangeShapes Go.WideShapes Go.ChangeAt Go.RowKit Go.Maps
open ps (Ps)
open tk (Tk)
open nd (Nd)
open rb (Ee)
set_option linter.unusedVariables false
set_option maxRecDepth 20000
theorem laidOut:laidOutB Tryz.prog=true:=by kernel_rfl
theorem row:(96:TypeId)<Tryz.prog.types.size:=of_decide_eq_true (by kernel_rfl)
theorem wide:(match Tryz.prog.underlying 96 with|some (.array _ _)|some (.struct _)=>true|_=>false)=true:=by rw[Tryz.underlying96]
theorem law:Keyed Tryz.prog 96:=Keyed.of_law (deep_law_laid laidOut (m:=3) (by omega) row (by kernel_rfl) wide)
theorem zeroI(w:World):(zeroValue 3).run Tryz.prog w= .ok (.int .i64 0) w:=by kernel_rfl
theorem cells1:Tryz.prog.cellsOf 3=1:=by kernel_rfl
theorem cells2:Tryz.prog.cellsOf 4=1:=by kernel_rfl
theorem cells5:Tryz.prog.cellsOf 26=5:=by kernel_rfl
theorem cells7:Tryz.prog.cellsOf 96=7:=by kernel_rfl
theorem sizeT:∃m,Tryz.prog.types.size=m+2:=⟨_,(by kernel_rfl:Tryz.prog.types.size=(Tryz.prog.types.size-2)+2)⟩
theorem keyT:Tryz.prog.keyType 96=true:=by kernel_rfl
def kv(i a:Int)(p:Ps):Value:= .agg #[.int .i64 i,.int .i64 a,.int .i64 p.l,.bool p.d,.bool p.i,.bool p.g,.bool p.s]
def okI(x:Int):Prop:= -9223372036854775808≤x∧x<9223372036854775808
theorem key_is{i a:Int}{p:Ps}(hi:(Lit.int .i64 i).wf=true)(ha:(Lit.int .i64 a).wf=true)(hl:(Lit.int .i64 p.l).wf=true):∃kl,keyOf Tryz.prog 96 (kv i a p)=some kl:=by
 obtain⟨m,hm⟩:=sizeT
 unfold keyOf kv
 simp only[Tryz.underlying96]
 rw[if_pos (by simp[keyT,Value.formed,Tryz.underlying96,cells7]),hm]
 simp[Program.keyLits,Tryz.underlying96,Tryz.underlying26,Tryz.underlying3,Tryz.underlying4,cells1,cells2,cells5,cells7,hi,ha,hl,Value.cells]
 rw[if_pos (by decide)]
 exact⟨_,rfl⟩
theorem key_inj{i a j b:Int}{p q:Ps}{kl:Lit}(h1:keyOf Tryz.prog 96 (kv i a p)=some kl)(h2:keyOf Tryz.prog 96 (kv j b q)=some kl):i=j∧a=b∧p=q:=by
 have:=law.inj h1 h2
 obtain⟨pl,pd,pi,pg,ps⟩:=p
 obtain⟨ql,qd,qi,qg,qs⟩:=q
 simpa [kv]using this
def ok(k:Nat×Nat×Ps):Prop:=k.1≤400∧k.2.1≤400∧0≤k.2.2.l∧k.2.2.l≤15
def code(k:Nat×Nat×Ps):Nat:=(((((k.1*401+k.2.1)*16+k.2.2.l.toNat)*2+k.2.2.d.toNat)*2+k.2.2.i.toNat)*2+k.2.2.g.toNat)*2+k.2.2.s.toNat
theorem bl(b:Bool):b.toNat≤1:=by cases b<;>simp
theorem bl_inj{b c:Bool}(h:b.toNat=c.toNat):b=c:=by cases b<;>cases c<;>simp_all
theorem code_lt{k:Nat×Nat×Ps}(h:ok k):code k<41165056:=by
 obtain⟨h1,h2,h3,h4⟩:=h
 have e1:=bl k.2.2.d
 have e2:=bl k.2.2.i
 have e3:=bl k.2.2.g
 have e4:=bl k.2.2.s
 unfold code
 omega
theorem code_inj{j k:Nat×Nat×Ps}(hj:ok j)(hk:ok k)(h:code j=code k):j=k:=by
 obtain⟨i,a,pl,pd,pi,pg,ps⟩:=j
 obtain⟨i',a',ql,qd,qi,qg,qs⟩:=k
 obtain⟨h1,h2,h3,h4⟩:=hj
 obtain⟨k1,k2,k3,k4⟩:=hk
 simp only[code]at h h1 h2 h3 h4 k1 k2 k3 k4
 have e1:=bl pd
 have e2:=bl pi
 have e3:=bl pg
 have e4:=bl ps
 have f1:=bl qd
 have f2:=bl qi
 have f3:=bl qg
 have f4:=bl qs
 obtain rfl:i=i':=by omega
 obtain rfl:a=a':=by omega
 obtain rfl:pl=ql:=by omega
 obtain rfl:pd=qd:=bl_inj (by omega)
 obtain rfl:pi=qi:=bl_inj (by omega)
 obtain rfl:pg=qg:=bl_inj (by omega)
 obtain rfl:ps=qs:=bl_inj (by omega)
 rfl
theorem few:∀(M:Nat) (l:List Nat),l.Nodup→(∀x∈l,x<M)→l.length≤M:=by
 intro M
 induction M with
 |zero=>
  intro l _ h
  cases l with
  |nil=>exact Nat.le_refl _
  |cons x l=>exact absurd (h x (List.mem_cons_self ..)) (Nat.not_lt_zero _)
 |succ M ih=>
  intro l hn h
  by_cases hm:M∈l
  ·have h1:=ih (l.erase M) (hn.erase M) (fun x hx=>by
    have j:=(hn.mem_erase_iff).1 hx
    have:=h x j.2
    have:=j.1
    omega)
   rw[List.length_erase_of_mem hm]at h1
   omega
  ·have:=ih l hn (fun x hx=>by
    have:=h x hx
    have:x≠M:=fun e=>hm (e▸hx)
    omega)
   omega
theorem nodup_code:∀ks:List (Nat×Nat×Ps),ks.Nodup→(∀k∈ks,ok k)→(ks.map code).Nodup:=by
 intro ks
 induction ks with
 |nil=>intro _ _;exact List.nodup_nil
 |cons k ks ih=>
  intro hn ho
  rw[List.nodup_cons]at hn
  rw[List.map_cons,List.nodup_cons]
  refine⟨fun hm=> ?_,ih hn.2 (fun x hx=>ho x (List.mem_cons_of_mem _ hx))⟩
  obtain⟨x,hx,e⟩:=List.mem_map.1 hm
  exact hn.1 (code_inj (ho x (List.mem_cons_of_mem _ hx)) (ho k (List.mem_cons_self ..)) e▸hx)
theorem ks_few{ks:List (Nat×Nat×Ps)}(hn:ks.Nodup)(ho:∀k∈ks,ok k):ks.length≤41165056:=by
 have:=few 41165056 (ks.map code) (nodup_code ks hn ho) (fun x hx=>by
  obtain⟨k,hk,rfl⟩:=List.mem_map.1 hx
  exact code_lt (ho k hk))
 rwa [List.length_map]at this
theorem owns_size{w:World}{R:Value→Option (DataW Unit×List MemPlace)}{b n:Nat}{D:DataW Unit}(h:w.ownsMap Tryz.prog 96 R b n D):w.ownsMap Tryz.prog 96 R b (Maps.size D) D:=by
 obtain⟨es,clock,hb,F,hn,rfl⟩:=h
 refine⟨es,clock,hb,F, ?_,rfl⟩
 rw[size_eq,(sorted_perm _).length_eq]
 simp
def co:Option Nat→Int
 |none=> -1
 |some b=>(b:Int)
def In(L:List Tk)(a:Option Nat):Prop:=∀b,a=some b→b≤L.length
theorem In.co{L:List Tk}{a:Option Nat}(h:In L a)(hL:L.length≤400): -1≤co a∧co a≤400:=by
 cases a with
 |none=>simp[dm.co]
 |some b=>have:=h b rfl;simp[dm.co];omega
def Memo(L:List Tk)(l:List Nd)(mb:Nat)(w:World):Prop:=
 ∃(D:DataW Unit) (ks:List (Nat×Nat×Ps)),w.ownsMap Tryz.prog 96 (plainElem Tryz.prog 3) mb (Maps.size D) D∧Maps.size D≤ks.length∧ks.Nodup∧(∀k∈ks,ok k)∧
  ∀(i a:Nat) (p:Ps) (kl:Lit),keyOf Tryz.prog 96 (kv i a p)=some kl→(Maps.has D kl=true↔(i,a,p)∈ks)∧(Maps.has D kl=true→D.atKey kl (.lit (.int .i64 0))= .lit (.int .i64 (co (Ee L l i a p)))∧In L (Ee L l i a p))
theorem Memo.start(L:List Tk)(l:List Nd)(w:World):Memo L l w.heap.size (w.alloc (.map #[] 0)):=
 ⟨.map [],[],World.ownsMap_made _ _ _ _,Nat.le_refl _,List.nodup_nil,(fun k hk=>absurd hk (List.not_mem_nil)),fun i a p kl _=>⟨by simp[Maps.has],(fun h=>by simp[Maps.has]at h)⟩⟩
theorem Memo.lt{L:List Tk}{l:List Nd}{mb:Nat}{w:World}(h:Memo L l mb w):mb<w.heap.size:=by
 obtain⟨D,ks,h,-⟩:=h
 exact h.lt
theorem Memo.kept{L:List Tk}{l:List Nd}{mb:Nat}{w w':World}(h:Memo L l mb w)(hb:w'.heap[mb]? =w.heap[mb]?):Memo L l mb w':=by
 obtain⟨D,ks,⟨es,clock,h1,h2⟩,r⟩:=h
 exact⟨D,ks,⟨es,clock,hb.trans h1,h2⟩,r⟩
theorem Memo.look{L:List Tk}{l:List Nd}{mb:Nat}{w:World}(h:Memo L l mb w){i a:Nat}{p:Ps}{kl:Lit}(hkey:keyOf Tryz.prog 96 (kv i a p)=some kl):
  ∃(c:Int) (b:Bool),(∀w',w'.heap=w.heap→(Instr.lookup 61 (.map (some mb)) (kv i a p) true).run Tryz.prog w'= .ok (.tuple #[.int .i64 c,.bool b]) w')∧(b=true→c=co (Ee L l i a p)∧In L (Ee L l i a p)):=by
 obtain⟨D,ks,h1,h2,h3,h4,h5⟩:=h
 obtain⟨v,ps',hr,hv⟩:=h1.look_ok (e:=3) law Tryz.underlying61 (zeroI w) (plainElem_int Tryz.underlying3 (by decide)) hkey
 obtain⟨c,rfl,hc,hwc⟩:=plainElem_int_inv Tryz.underlying3 hv
 refine⟨c,Maps.has D kl,fun w' hw=> ?_,fun hb=> ?_⟩
 ·have j:w'.ownsMap Tryz.prog 96 (plainElem Tryz.prog 3) mb (Maps.size D) D:=by
   obtain⟨es,clock,h1,h2⟩:=h1
   exact⟨es,clock,by rw[hw];exact h1,h2⟩
  obtain⟨v',y,hr',hv'⟩:=j.look_ok (e:=3) law Tryz.underlying61 (zeroI w') (plainElem_int Tryz.underlying3 (by decide)) hkey
  obtain⟨c',rfl,hc',-⟩:=plainElem_int_inv Tryz.underlying3 hv'
  have e:c'=c:=by
   have e1:D.atKey kl (.lit (.int .i64 0))= .lit (.int .i64 c'):=congrArg Prod.fst hc'
   have e2:D.atKey kl (.lit (.int .i64 0))= .lit (.int .i64 c):=congrArg Prod.fst hc
   simpa using e1.symm.trans e2
  rw[←e]
  exact hr'
 ·obtain⟨r2,r3⟩:=(h5 i a p kl hkey).2 hb
  have e2:D.atKey kl (.lit (.int .i64 0))= .lit (.int .i64 c):=congrArg Prod.fst hc
  exact⟨by simpa using e2.symm.trans r2,r3⟩
theorem Memo.store{L:List Tk}{l:List Nd}{mb:Nat}{w:World}(h:Memo L l mb w){i a:Nat}{p:Ps}{kl:Lit}(hkey:keyOf Tryz.prog 96 (kv i a p)=some kl)(ho:ok (i,a,p))(hin:In L (Ee L l i a p))(hw:(Lit.int .i64 (co (Ee L l i a p))).wf=true):
  ∃w',(Instr.mapUpdate 61 (.map (some mb)) (kv i a p) (.int .i64 (co (Ee L l i a p)))).run Tryz.prog w= .ok () w'∧Memo L l mb w'∧w.grownBy w' (some mb):=by
 obtain⟨D,ks,h1,h2,h3,h4,h5⟩:=h
 have hf:=ks_few h3 h4
 obtain⟨w',hr,hown,hg⟩:=h1.update (e:=3) law Tryz.underlying61 (by unfold maxLen;omega) hkey (plainElem_int Tryz.underlying3 hw)
 refine⟨w',hr, ?_,hg⟩
 have hT:=h1.tidy law
 have hM:=h1.isMap
 have hK:=law.key hkey
 have hsz:=size_put hT (k:=kl) (.lit (.int .i64 (co (Ee L l i a p))))
 have hall:∀(i' a':Nat) (p':Ps) (kl':Lit),keyOf Tryz.prog 96 (kv i' a' p')=some kl'→(Maps.has (D.put kl (.lit (.int .i64 (co (Ee L l i a p))))) kl'=true↔((i',a',p')=(i,a,p)∨(i',a',p')∈ks))∧(Maps.has (D.put kl (.lit (.int .i64 (co (Ee L l i a p))))) kl'=true→(D.put kl (.lit (.int .i64 (co (Ee L l i a p))))).atKey kl' (.lit (.int .i64 0))= .lit (.int .i64 (co (Ee L l i' a' p')))∧In L (Ee L l i' a' p')):=by
  intro i' a' p' kl' hk'
  by_cases e:kl'=kl
  ·subst e
   obtain⟨e1,e2,rfl⟩:=key_inj hk' hkey
   obtain rfl:i'=i:=by omega
   obtain rfl:a'=a:=by omega
   exact⟨⟨fun _=> .inl rfl,fun _=>has_put_same hM hK _⟩,fun _=>⟨atKey_put_same hM hK _ _,hin⟩⟩
  ·obtain⟨r1,r2⟩:=h5 i' a' p' kl' hk'
   rw[has_put_other e]
   refine⟨⟨fun h=> .inr (r1.1 h),fun h=>h.elim (fun h=> ?_) r1.2⟩,fun h=>⟨(atKey_put_other e _ _).trans (r2 h).1,(r2 h).2⟩⟩
   injection h with h1 h2
   injection h2 with h2 h3
   subst h1 h2 h3
   rw[hk']at hkey
   injection hkey with hkey
   exact absurd hkey e
 by_cases hm:(i,a,p)∈ks
 ·have hh:=(h5 i a p kl hkey).1.2 hm
  refine⟨_,ks,owns_size hown,by rw[hsz,if_pos hh];exact h2,h3,h4,fun i' a' p' kl' hk'=> ?_⟩
  obtain⟨r1,r2⟩:=hall i' a' p' kl' hk'
  exact⟨⟨fun h=>(r1.1 h).elim (fun e=>e▸hm) id,fun h=>r1.2 (.inr h)⟩,r2⟩
 ·refine⟨_,(i,a,p)::ks,owns_size hown, ?_,List.nodup_cons.2 ⟨hm,h3⟩,fun k hk=> ?_,fun i' a' p' kl' hk'=> ?_⟩
  ·rw[hsz]
   split
   ·simp;omega
   ·simp;omega
  ·rcases List.mem_cons.1 hk with rfl|hk
   ·exact ho
   ·exact h4 k hk
  ·obtain⟨r1,r2⟩:=hall i' a' p' kl' hk'
   exact⟨by rw[List.mem_cons];exact r1,r2⟩
end Go.Proofs.YtnoagleifffkcaaGreatDoor.dm
