/-

-/
import Derived.Test.YtnoagleifffkcaaGreatDoorZoGDc
import Derived.Test.YtnoagleifffkcaaGreatDoorZoGSm
namespace Go.Proofs.YtnoagleifffkcaaGreatDoor.draw.dq
open nd lcg draw
set_option linter.unusedVariables false
set_option linter.unusedSimpArgs false
def mxs(l:List Nat):Nat:=l.foldr max 0
theorem le_mxs{l:List Nat}{x:Nat}(h:x∈l):x≤mxs l:=by
 induction l with
 |nil=>cases h
 |cons y l ih=>
  show x≤max y (mxs l)
  rcases List.mem_cons.1 h with rfl|h
  ·omega
  ·have:=ih h;omega
theorem mxs_le{l:List Nat}{N:Nat}(h:∀x∈l,x≤N):mxs l≤N:=by
 induction l with
 |nil=>exact Nat.zero_le _
 |cons y l ih=>
  show max y (mxs l)≤N
  have:=h y (List.mem_cons_self ..)
  have:=ih (fun x hx=>h x (List.mem_cons_of_mem _ hx))
  omega
def pu(st:List Nat)(k:Nat):List Nat:=(mxs (st.take k)+1)::st.drop k
def rn(r st:List Nat):List Nat:=r.foldl pu st
def lo(N:Nat):List Nat→List Nat→Prop
 |[],_=>True
 |k::r,st=>mxs (st.take k)+1≤N∧lo N r (pu st k)
theorem rn_app(r r' st:List Nat):rn (r++r') st=rn r' (rn r st):=by simp[rn]
theorem lo_app(N:Nat):∀(r r' st:List Nat),lo N (r++r') st↔lo N r st∧lo N r' (rn r st):=by
 intro r
 induction r with
 |nil=>intro r' st;simp[lo,rn]
 |cons k r ih=>
  intro r' st
  show(_∧lo N (r++r') (pu st k))↔(_∧lo N r (pu st k))∧lo N r' (rn r (pu st k))
  rw[ih]
  exact and_assoc.symm
theorem lo_mono{N M:Nat}(h:N≤M):∀(r st:List Nat),lo N r st→lo M r st:=by
 intro r
 induction r with
 |nil=>intro st _;trivial
 |cons k r ih=>intro st ⟨h1,h2⟩;exact⟨by omega,ih _ h2⟩
theorem lo_at{N:Nat}:∀(r st:List Nat) (i:Nat) (h:i<r.length),lo N r st→mxs ((rn (r.take i) st).take r[i])+1≤N:=by
 intro r
 induction r with
 |nil=>intro st i h;simp at h
 |cons k r ih=>
  intro st i h hl
  cases i with
  |zero=>exact hl.1
  |succ i=>exact ih (pu st k) i (by simpa using h) hl.2
def ar(q:List Nd):List Nat:=q.map (·.kids.length)
theorem ar_app(q q':List Nd):ar (q++q')=ar q++ar q':=by simp[ar]
def Pc(N:Nat)(q:List Nd):Prop:=(ar q).sum+1=q.length∧∃d,d≤N∧∀st,rn (ar q) st=d::st∧lo N (ar q) st
theorem Pc.mono{N M:Nat}{q:List Nd}(h:Pc N q)(hl:N≤M):Pc M q:=by
 obtain⟨h0,d,h1,h2⟩:=h
 exact⟨h0,d,by omega,fun st=>⟨(h2 st).1,lo_mono hl _ _ (h2 st).2⟩⟩
theorem ar_go:∀(ps:List (List Nd)) (out:List Nd) (ks:List Int),ar (makeGo ps out ks).1=ar out++(ps.map ar).flatten:=by
 intro ps
 induction ps with
 |nil=>intro out ks;simp[makeGo]
 |cons q ps ih=>
  intro out ks
  refine(ih _ _).trans ?_
  rw[ar_app,List.append_assoc,List.map_cons,List.flatten_cons]
  congr 2
  simp[ar,shN,shK]
theorem ar_make(n:Nd)(ps:List (List Nd)):ar (makeT n ps)=(ps.map ar).flatten++[ps.length]:=by
 show ar ((makeGo ps [] []).1++[{n with kids:=(makeGo ps [] []).2}])=_
 rw[ar_app,ar_go]
 have:=ar.go_len ps [] []
 simp only[List.length_nil,Nat.zero_add]at this
 show([]++_)++[(makeGo ps [] []).2.length]=_
 rw[this]
 rfl
theorem pieces{ps:List (List Nd)}{ks:List Nat}(h:All2 (fun q k=>Pc k q) ps ks):∃ds:List Nat,ds.length=ps.length∧mxs ds≤mxs ks∧∀st,rn (ps.map ar).flatten st=ds.reverse++st∧lo (mxs ks) (ps.map ar).flatten st:=by
 induction h with
 |nil=>exact⟨[],rfl,Nat.le_refl _,fun st=>⟨rfl,trivial⟩⟩
 | @cons q k ps ks h1 _ ih=>
  obtain⟨ds,e,hm,ih⟩:=ih
  obtain⟨h0,d,h1,h2⟩:=h1
  refine⟨d::ds,by simp[e],show max d (mxs ds)≤max k (mxs ks) by omega,fun st=> ?_⟩
  rw[List.map_cons,List.flatten_cons,rn_app,lo_app,(h2 st).1,(ih (d::st)).1]
  refine⟨by simp,lo_mono (Nat.le_max_left ..) _ _ (h2 st).2,lo_mono (Nat.le_max_right ..) _ _ (ih (d::st)).2⟩
theorem pieces_sum{ps:List (List Nd)}{ks:List Nat}(h:All2 (fun q k=>Pc k q) ps ks):(ps.map ar).flatten.sum+ps.length=sumL ps:=by
 induction h with
 |nil=>rfl
 | @cons q k ps ks h1 _ ih=>
  have:=h1.1
  rw[List.map_cons,List.flatten_cons,List.sum_append]
  simp only[List.length_cons,sumL]at ih⊢
  omega
theorem pc_make(n:Nd){ps:List (List Nd)}{ks:List Nat}(h:All2 (fun q k=>Pc k q) ps ks):Pc (mxs ks+1) (makeT n ps):=by
 obtain⟨ds,e,hm,hd⟩:=pieces h
 have hs:=pieces_sum h
 have hr:mxs ds.reverse=mxs ds:=Nat.le_antisymm (mxs_le fun x hx=>le_mxs (List.mem_reverse.1 hx)) (mxs_le fun x hx=>le_mxs (List.mem_reverse.2 hx))
 refine⟨by rw[ar_make,makeT_len,List.sum_append,←hs];simp,mxs ds+1,by omega,fun st=> ?_⟩
 have ht:(ds.reverse++st).take ps.length=ds.reverse:=by rw[←e,←List.length_reverse,List.take_left]
 have hp:pu (ds.reverse++st) ps.length=(mxs ds+1)::st:=by
  unfold pu
  rw[ht,hr,←e,←List.length_reverse,List.drop_left]
 rw[ar_make,rn_app,lo_app,(hd st).1]
 refine⟨hp,lo_mono (Nat.le_succ _) _ _ (hd st).2, ?_,trivial⟩
 rw[ht,hr]
 omega
def depG(zs:List Int):Gen St Nat:=⟨(exactG zs).bl,fun n l=>mxs l+1⟩
theorem exact_dep(zs:List Int):Step (exactG zs) (depG zs) (fun s u=>s=u) (fun q k=>Pc k q):=
 ⟨fun n s u h0 h1 h=>by subst h;exact⟨rfl,rfl⟩,fun n l k h=>pc_make n h⟩
end Go.Proofs.YtnoagleifffkcaaGreatDoor.draw.dq

namespace Go.Proofs.YtnoagleifffkcaaGreatDoor.draw.dq
open nd lcg draw
set_option linter.unusedVariables false
set_option linter.unusedSimpArgs false
def Tr(N:Nat)(E:St→Nat×St):Prop:=∀s,(E s).1≤N
def Nb(g:Gen St Nat):Prop:=∀n l N,(∀x∈l,x≤N)→g.nd n l≤N+1
theorem Tr.mono{N M:Nat}{E:St→Nat×St}(h:Tr N E)(hl:N≤M):Tr M E:=fun s=>Nat.le_trans (h s) hl
theorem b0(N:Nat):∀x∈([]:List Nat),x≤N:=fun x h=>by cases h
theorem b1{N a:Nat}(h:a≤N):∀x∈[a],x≤N:=by simpa using h
theorem b2{N a b:Nat}(h:a≤N)(h2:b≤N):∀x∈[a,b],x≤N:=by simp[h,h2]
theorem b3{N a b c:Nat}(h:a≤N)(h2:b≤N)(h3:c≤N):∀x∈[a,b,c],x≤N:=by simp[h,h2,h3]
theorem b4{N a b c d:Nat}(h:a≤N)(h2:b≤N)(h3:c≤N)(h4:d≤N):∀x∈[a,b,c,d],x≤N:=by simp[h,h2,h3,h4]
theorem bA{N:Nat}{l m:List Nat}(h:∀x∈l,x≤N)(h2:∀x∈m,x≤N):∀x∈l++m,x≤N:=fun x hx=>(List.mem_append.1 hx).elim (h x) (h2 x)
theorem timesB{N:Nat}{E:St→Nat×St}(h:Tr N E):∀n s,∀x∈(timesG E n s).1,x≤N:=by
 intro n
 induction n with
 |zero=>intro s;exact b0 N
 |succ n ih=>
  intro s x hx
  simp only[timesG,List.mem_cons]at hx
  rcases hx with rfl|hx
  ·exact h s
  ·exact ih _ x hx
theorem listB{N:Nat}{g:Gen St Nat}{E:St→Nat×St}(h:Tr N E)(a b:Nat)(s:St):∀x∈(listG g E a b s).1,x≤N:=timesB h _ _
theorem wordB{g:Gen St Nat}(H:Nb g):Tr 1 (wordG g):=fun s=>H _ _ 0 (b0 0)
theorem leafB{g:Gen St Nat}(H:Nb g):Tr 1 (leafG g):=by
 intro s
 unfold leafG
 dsimp only
 generalize (g.bl 7 s).1=b
 rcases b with _|_|_|b
 all_goals try dsimp only
 ·exact H _ _ 0 (b0 0)
 ·exact H _ _ 0 (b0 0)
 ·show(if(g.bl 2 (g.bl 7 s).2).1=0 then _ else _:Nat×St).1≤1
  split
  ·exact H _ _ 0 (b0 0)
  ·exact wordB H _
 ·exact wordB H _
section
variable {N:Nat} {g:Gen St Nat} (H:Nb g) {E1 E2 E3:St→Nat×St} (h1:Tr N E1) (h2:Tr N E2) (h3:Tr N E3)
include H h1 h2
theorem lvalB:Tr (N+1) (lvalG g E1 E2):=by
 intro s
 unfold lvalG
 dsimp only
 generalize (g.bl 4 s).1=b
 rcases b with _|_|b
 all_goals try dsimp only
 ·exact H _ _ N (b1 (h1 _))
 ·exact H _ _ N (b1 (h2 _))
 ·exact Nat.le_trans (wordB H _) (by omega)
include h3
theorem stepB:Tr (N+2) (stepG g E1 E2 E3):=by
 intro s
 unfold stepG
 dsimp only
 generalize (g.bl 2 s).1=i
 generalize (g.bl 16 (g.bl 2 s).2).1=b
 have u1:=fun s=>Nat.le_succ_of_le (h1 s)
 have u2:=fun s=>Nat.le_succ_of_le (h2 s)
 have l1:=lvalB H h1 h2
 have l2:=lvalB H h2 h3
 rcases b with _|_|_|_|_|_|_|_|_|_|_|_|b
 all_goals try dsimp only
 ·exact Nat.le_trans (leafB H _) (by omega)
 ·exact Nat.le_succ_of_le (l1 _)
 ·exact H _ _ (N+1) (b1 (u1 _))
 ·exact H _ _ (N+1) (listB (h1.mono (Nat.le_succ _)) _ _ _)
 ·exact H _ _ (N+1) (listB (h2.mono (Nat.le_succ _)) _ _ _)
 ·exact H _ _ (N+1) (b1 (l2 _))
 ·exact H _ _ (N+1) (b1 (l2 _))
 ·exact H _ _ (N+1) (b1 (u1 _))
 ·exact H _ _ (N+1) (b1 (u1 _))
 ·exact H _ _ (N+1) (listB (h1.mono (Nat.le_succ _)) _ _ _)
 ·exact H _ _ (N+1) (b3 (u1 _) (u1 _) (u1 _))
 ·exact H _ _ (N+1) (b2 (l2 _) (u1 _))
 ·exact H _ _ (N+1) (b2 (u1 _) (u1 _))
end
theorem exprsB{g:Gen St Nat}(H:Nb g):∀d,Tr (2*d+1) (exprs g d).1∧Tr (2*d+1) (exprs g d).2.1∧Tr (2*d+1) (exprs g d).2.2:=by
 intro d
 induction d with
 |zero=>exact⟨leafB H,leafB H,leafB H⟩
 |succ d ih=>exact⟨(stepB H ih.1 ih.2.1 ih.2.2).mono (by omega),ih.1.mono (by omega),ih.2.1.mono (by omega)⟩
theorem exprB{g:Gen St Nat}(H:Nb g)(d:Nat):Tr (2*d+1) (exprG g d):=(exprsB H d).1
section
variable {N:Nat} {g:Gen St Nat} (H:Nb g) {A B C:St→Nat×St} (ha:Tr N A) (hb:Tr N B) (hc:Tr N C)
include H ha
theorem maybeB:Tr (N+1) (maybeG g A):=by
 intro s
 unfold maybeG
 split
 ·exact H _ _ N (b0 N)
 ·exact Nat.le_succ_of_le (ha _)
theorem blockB:Tr (N+1) (blockG g A):=fun s=>H _ _ N (timesB ha _ _)
include hb
theorem simpleB:Tr (N+1) (simpleG g A B):=by
 intro s
 have pr:∀u,((fun(u:St)=>
  let o:=g.bl 2 u
  let l:=listG g A o.1 3 o.2
  let c:=g.bl 3 l.2
  if c.1=0 then
   let x:=pkG g l7OutL c.2
   let e:=B x.2
   (g.nd ⟨21,(o.1:Int),⟨#[]⟩,x.1,[]⟩ (l.1++[e.1]),e.2)
  else(g.nd (nodeO 21 (o.1:Int)) l.1,c.2)) u).1≤N+1:=by
  intro u
  dsimp only
  split
  ·exact H _ _ N (bA (listB ha _ _ _) (b1 (hb _)))
  ·exact H _ _ N (listB ha _ _ _)
 unfold simpleG
 dsimp only
 generalize (g.bl 9 s).1=b
 rcases b with _|_|_|_|_|_|b
 all_goals try dsimp only
 ·exact pr _
 ·exact pr _
 ·exact H _ _ N (b0 N)
 ·exact H _ _ N (listB ha _ _ _)
 ·exact H _ _ N (listB hb _ _ _)
 ·show(if(g.bl 2 _).1=0 then _ else _:Nat×St).1≤N+1
  split
  ·exact H _ _ N (b0 N)
  ·exact H _ _ N (b1 (ha _))
 ·exact H _ _ N (b1 (ha _))
include hc
theorem compB:Tr (N+2) (compG g A B C):=by
 intro s
 unfold compG
 dsimp only
 generalize (g.bl 6 s).1=b
 have u1:=fun s=>Nat.le_succ_of_le (ha s)
 have u3:=fun s=>Nat.le_succ_of_le (hc s)
 rcases b with _|_|_|_|_|b
 all_goals try dsimp only
 ·exact H _ _ (N+1) (b2 (u1 _) (u3 _))
 ·exact H _ _ (N+1) (b3 (u1 _) (u3 _) (u3 _))
 ·exact H _ _ (N+1) (b2 (u1 _) (u3 _))
 ·exact H _ _ (N+1) (b2 (u3 _) (u1 _))
 ·exact H _ _ (N+1) (b4 (maybeB H hb _) (maybeB H ha _) (maybeB H ha _) (u3 _))
 ·show(if(g.bl 2 _).1=0 then _ else _:Nat×St).1≤N+2
  split
  ·exact Nat.le_succ_of_le (u3 _)
  ·exact H _ _ (N+1) (b1 (u3 _))
end
theorem stmtB{g:Gen St Nat}(H:Nb g):∀d,Tr (3*d+5) (stmtG g d):=by
 intro d
 induction d with
 |zero=>exact(simpleB H ((exprB H 0).mono (by omega)) ((exprB H 0).mono (show _≤4 by omega))).mono (by omega)
 |succ d ih=>
  intro s
  unfold stmtG
  split
  ·exact Nat.le_trans (compB H ((exprB H 1).mono (by omega)) ((exprB H 2).mono (by omega)) (blockB H ih) _) (by omega)
  ·exact Nat.le_trans (simpleB (N:=3*d+5) H ((exprB H (min (d+1) 2)).mono (by omega)) ((exprB H (min (d+1) 2-1)).mono (by omega)) _) (by omega)
theorem itemB{g:Gen St Nat}(H:Nb g)(hb:∀s,(g.bl 2 s).1<2):Tr 13 (itemG g):=by
 intro s
 unfold itemG
 dsimp only
 have hd:=hb s
 have hB:Tr 12 (blockG g (stmtG g (1+(g.bl 2 s).1))):=(blockB H (stmtB H _)).mono (by omega)
 have hE:Tr 12 (exprG g (1+(g.bl 2 s).1)):=(exprB H _).mono (by omega)
 have h1:Tr 12 (exprG g 1):=(exprB H 1).mono (by omega)
 generalize blockG g (stmtG g (1+(g.bl 2 s).1))=Bk at hB⊢
 generalize exprG g (1+(g.bl 2 s).1)=E at hE⊢
 generalize (g.bl 8 (g.bl 2 s).2).1=b
 rcases b with _|_|_|_|_|_|_|b
 all_goals try dsimp only
 ·exact H _ _ 12 (b1 (hB _))
 ·exact H _ _ 12 (b1 (hE _))
 ·exact H _ _ 12 (b1 (hB _))
 ·exact H _ _ 12 (b2 (h1 _) (h1 _))
 ·exact H _ _ 12 (b3 (h1 _) (h1 _) (hB _))
 ·exact H _ _ 12 (bA (timesB ((wordB H).mono (by omega)) _ _) (b1 (hB _)))
 ·exact H _ _ 12 (b0 _)
 ·exact H _ _ 12 (b2 (hE _) (hB _))
theorem progB{g:Gen St Nat}(H:Nb g)(hb:∀s,(g.bl 2 s).1<2):Tr 14 (progG g):=fun s=>H _ _ 13 (timesB (itemB H hb) _ _)
theorem nbG(zs:List Int):Nb (depG zs):=fun n l N h=>Nat.succ_le_succ (mxs_le h)
theorem expr_pc(zs:List Int)(d:Nat)(s:St):Pc (2*d+1) (exprG (exactG zs) d s).1:=((exact_dep zs).expr d s s rfl).1.mono (exprB (nbG zs) d s)
theorem stmt_pc(zs:List Int)(d:Nat)(s:St):Pc (3*d+5) (stmtG (exactG zs) d s).1:=((exact_dep zs).stmt d s s rfl).1.mono (stmtB (nbG zs) d s)
theorem prog_pc(zs:List Int)(s:St):Pc 14 (progG (exactG zs) s).1:=((exact_dep zs).prog s s rfl).1.mono (progB (nbG zs) (fun s=>exact_lt zs 2 s (by decide)) s)
end Go.Proofs.YtnoagleifffkcaaGreatDoor.draw.dq

namespace Go.Proofs.YtnoagleifffkcaaGreatDoor.draw.dq
open nd lcg draw
set_option linter.unusedVariables false
set_option linter.unusedSimpArgs false
inductive Stk (D ss:List Nat):Nat→List Nat→Prop
 |nil:Stk D ss 0 []
 |cons {p d:Nat} {st:List Nat}:D.getD p 0≤d→Stk D ss (ss.getD p 0) st→Stk D ss (p+1) (d::st)
theorem stk_back{D ss:List Nat}:∀(ks:List Int) (p s:Nat) (st:List Nat),back ss ks p=some s→Stk D ss p st→Stk D ss s (st.drop ks.length)∧ks.length≤st.length∧∀k∈ks,D.getD k.toNat 0≤mxs (st.take ks.length):=by
 intro ks
 induction ks with
 |nil=>
  intro p s st h hst
  have:p=s:=by simpa [back]using h
  subst this
  exact⟨hst,Nat.zero_le _,fun k hk=>by cases hk⟩
 |cons x ks ih=>
  intro p s st h hst
  by_cases hc:x=(p:Int)-1∧p≠0
  ·rw[back_yes hc.1 hc.2]at h
   cases hst with
   |nil=>exact absurd rfl hc.2
   | @cons q d st' h1 h2=>
    obtain⟨i1,i2,i3⟩:=ih _ s st' h h2
    refine⟨i1,by simp only[List.length_cons];omega,fun k hk=> ?_⟩
    show _≤max d (mxs (st'.take ks.length))
    rcases List.mem_cons.1 hk with e|hk
    ·have:k.toNat=q:=by omega
     rw[this]
     omega
    ·have:=i3 k hk
     omega
  ·rw[back_no hc]at h;cases h
theorem mx_all{d:List Nat}{M:Nat}{ks:List Int}(h:∀k∈ks,d.getD k.toNat 0≤M):mx d ks≤M:=by
 have key:∀(ks:List Int) (m:Nat),m≤M→(∀k∈ks,d.getD k.toNat 0≤M)→ks.foldl (fun m k=>max m (d.getD k.toNat 0)) m≤M:=by
  intro ks
  induction ks with
  |nil=>intro m hm _;exact hm
  |cons k ks ih=>intro m hm h;exact ih _ (Nat.max_le.2 ⟨hm,h k (List.mem_cons_self ..)⟩) (fun x hx=>h x (List.mem_cons_of_mem _ hx))
 exact key ks 0 (Nat.zero_le _) h
theorem step_le{l:List Nd}(h:nd.shape l=true){i:Nat}(hi:i<l.length){st:List Nat}(hst:Stk (dF l []) (stO l) i st):dep l i≤mxs (st.take l[i].kids.length)+1∧l[i].kids.length≤st.length∧Stk (dF l []) (stO l) ((stO l).getD i 0) (st.drop l[i].kids.length):=by
 obtain⟨b1,b2,b3⟩:=stk_back _ _ _ _ (sh_back h hi) hst
 rw[List.length_reverse]at b1 b2 b3
 refine⟨?_,b2,b1⟩
 rw[dep_at hi]
 refine Nat.succ_le_succ (mx_all fun k hk=> ?_)
 have:=(shape_at h hi).2 k hk
 rw[nd.getD_take (by omega)]
 exact b3 k (List.mem_reverse.2 hk)
theorem ar_len(q:List Nd):(ar q).length=q.length:=by simp[ar]
theorem run_shape{l:List Nd}(h:nd.shape l=true):∀i,i≤l.length→Stk (dF l []) (stO l) i (rn (ar (l.take i)) [])∧(rn (ar (l.take i)) []).length+(ar (l.take i)).sum=i:=by
 intro i
 induction i with
 |zero=>intro _;exact⟨Stk.nil,rfl⟩
 |succ i ih=>
  intro hi
  obtain⟨h1,h2⟩:=ih (by omega)
  obtain⟨s1,s2,s3⟩:=step_le h (by omega) h1
  rw[List.take_succ_eq_append_getElem (by omega),ar_app,rn_app,List.sum_append]
  refine⟨Stk.cons s1 s3, ?_⟩
  show((rn (ar (l.take i)) []).drop l[i].kids.length).length+1+(_+(l[i].kids.length+0))=i+1
  rw[List.length_drop]
  omega
theorem shape_sum{l:List Nd}(h:nd.shape l=true):(ar l).sum+1=l.length:=by
 obtain⟨h1,h2,h3,h4,h5,h6⟩:=shape_yes h
 obtain⟨r1,r2⟩:=run_shape h l.length (Nat.le_refl _)
 rw[List.take_length]at r1 r2
 obtain⟨m,hm⟩:∃m,l.length=m+1:=⟨l.length-1,by omega⟩
 rw[hm]at r1 r2 h6⊢
 generalize rn (ar l) []=R at r1 r2
 cases r1 with
 | @cons _ d st _ hs=>
  rw[show m+1-1=m by omega]at h6
  rw[h6]at hs
  cases hs
  simp only[List.length_cons,List.length_nil]at r2
  omega
theorem shape_lo{l:List Nd}(h:nd.shape l=true){N:Nat}(hl:lo N (ar l) []){i:Nat}(hi:i<l.length):dep l i≤N:=by
 obtain⟨r1,-⟩:=run_shape h i (by omega)
 have s1:=(step_le h hi r1).1
 have s2:=lo_at (ar l) [] i (by rw[ar_len];exact hi) hl
 have e1:(ar l).take i=ar (l.take i):=by simp[ar]
 have e2:(ar l)[i]'(by rw[ar_len];exact hi)=l[i].kids.length:=by simp[ar]
 rw[e1,e2]at s2
 omega
def Dq(q:List Nd):Prop:=(ar q).sum+1=q.length→lo 39 (ar q) []
theorem dq_depth{q:List Nd}(h:nd.shape q=true)(hd:Dq q):depthF q≤39:=by
 have h1:=(shape_yes h).1
 rw[all_depth h]
 exact shape_lo h (hd (shape_sum h)) (by omega)
theorem pc_dq{N:Nat}{q:List Nd}(h:Pc N q)(hN:N≤39):Dq q:=fun _=>by
 obtain⟨_,d,_,h2⟩:=h
 exact lo_mono hN _ _ (h2 []).2
theorem dq_ar{q q':List Nd}(e:ar q'=ar q)(h:Dq q):Dq q':=by
 unfold Dq at h⊢
 have hl:q'.length=q.length:=by rw[←ar_len,e,ar_len]
 rw[e,hl]
 exact h
theorem dq_take{N:Nat}{q:List Nd}(h:Pc N q)(hN:N≤39)(k:Nat):Dq (q.take k):=fun _=>by
 obtain⟨_,d,_,h2⟩:=h
 have:=lo_mono hN _ _ (h2 []).2
 rw[←List.take_append_drop k q,ar_app,lo_app]at this
 exact this.1
theorem sum_set:∀(l:List Nat) (k x:Nat) (h:k<l.length),(l.set k x).sum+l[k]=l.sum+x:=by
 intro l
 induction l with
 |nil=>intro k x h;simp at h
 |cons y l ih=>
  intro k x h
  cases k with
  |zero=>simp only[List.set_cons_zero,List.sum_cons,List.getElem_cons_zero];omega
  |succ k=>
   have:=ih k x (by simpa using h)
   simp only[List.set_cons_succ,List.sum_cons,List.getElem_cons_succ]
   omega
theorem dq_more{N:Nat}{q:List Nd}(h:Pc N q){k:Nat}(hk:k<q.length)(t:Nd)(ht:t.kids.length=q[k].kids.length+1):Dq (q.set k t):=fun hs=>by
 have e:ar (q.set k t)=(ar q).set k t.kids.length:=by simp[ar,List.map_set]
 have h1:=sum_set (ar q) k t.kids.length (by rw[ar_len];exact hk)
 have e2:(ar q)[k]'(by rw[ar_len];exact hk)=q[k].kids.length:=by simp[ar]
 have h0:=h.1
 rw[e2]at h1
 rw[e,List.length_set]at hs
 omega
theorem dq_set{q:List Nd}(h:Dq q){k:Nat}(hk:k<q.length)(t:Nd)(ht:t.kids.length=q[k].kids.length):Dq (q.set k t):=by
 refine dq_ar ?_ h
 have e:ar (q.set k t)=(ar q).set k t.kids.length:=by simp[ar,List.map_set]
 rw[e,ht]
 have e2:(ar q)[k]'(by rw[ar_len];exact hk)=q[k].kids.length:=by simp[ar]
 rw[←e2,List.set_getElem_self]
theorem dq_twice{N:Nat}{q:List Nd}(h:Pc N q):Dq (q++q):=fun hs=>by
 have h0:=h.1
 rw[ar_app,List.sum_append,List.length_append]at hs
 omega
end Go.Proofs.YtnoagleifffkcaaGreatDoor.draw.dq
