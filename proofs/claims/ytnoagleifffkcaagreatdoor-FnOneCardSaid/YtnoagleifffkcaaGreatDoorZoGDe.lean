/-

-/
import Derived.Test.YtnoagleifffkcaaGreatDoorZoGDb
import Derived.Test.YtnoagleifffkcaaGreatDoorZoGDq
import Derived.Test.YtnoagleifffkcaaGreatDoorZoGDd
namespace Go.Proofs.YtnoagleifffkcaaGreatDoor.draw.sz
open nd lcg draw
set_option linter.unusedVariables false
def Sh(t:Nd):Prop:=t.s.size≤16∧t.t.size≤16
def szG(zs:List Int):Gen St Bool:=⟨(exactG zs).bl,fun n l=>decide (n.s.size≤16)&&decide (n.t.size≤16)&&l.all id⟩
theorem go_str:∀(ps:List (List Nd)) (out:List Nd) (ks:List Int),(∀q∈ps,∀t∈q,Sh t)→(∀t∈out,Sh t)→∀t∈(makeGo ps out ks).1,Sh t:=by
 intro ps
 induction ps with
 |nil=>intro out ks _ h;exact h
 |cons q ps ih=>
  intro out ks h1 h2
  refine ih _ _ (fun q' hq=>h1 q' (List.mem_cons_of_mem _ hq)) ?_
  intro t ht
  rcases List.mem_append.1 ht with ht|ht
  ·exact h2 t ht
  ·obtain⟨t',ht',rfl⟩:=List.mem_map.1 ht
   exact h1 q (List.mem_cons_self ..) t' ht'
theorem all2_sh{l:List (List Nd)}{k:List Bool}(h:All2 (fun q b=>b=true→∀t∈q,Sh t) l k):k.all id=true→∀q∈l,∀t∈q,Sh t:=by
 induction h with
 |nil=>intro _ q hq;cases hq
 |cons h1 _ ih=>
  intro hk q hq
  simp only[List.all_cons,Bool.and_eq_true,id]at hk
  rcases List.mem_cons.1 hq with e|hq
  ·rw[e];exact h1 hk.1
  ·exact ih hk.2 q hq
theorem exact_sz(zs:List Int):Step (exactG zs) (szG zs) (fun s u=>s=u) (fun q b=>b=true→∀t∈q,Sh t):=by
 refine⟨fun n s u h0 h1 h=>by subst h;exact⟨rfl,rfl⟩,fun n l k h hb t ht=> ?_⟩
 have hb':(decide (n.s.size≤16)&&decide (n.t.size≤16)&&k.all id)=true:=hb
 simp only[Bool.and_eq_true,decide_eq_true_eq]at hb'
 have ht':t∈(makeGo l [] []).1++[{n with kids:=(makeGo l [] []).2}]:=ht
 rcases List.mem_append.1 ht' with ht|ht
 ·exact go_str l [] [] (all2_sh h hb'.2) (fun t ht=>by cases ht) t ht
 ·rw[List.mem_singleton]at ht
  subst ht
  exact hb'.1
def Tr1(E:St→Bool×St):Prop:=∀s,(E s).1=true
def Nd1(g:Gen St Bool):Prop:=∀n l,n.s.size≤16→n.t.size≤16→l.all id=true→g.nd n l=true
theorem ndO{g:Gen St Bool}(H:Nd1 g){k o:Int}{l:List Bool}(h:l.all id=true):g.nd (nodeO k o) l=true:=H _ _ (Nat.zero_le _) (Nat.zero_le _) h
theorem pk_sz{L:List ByteArray}(hL:L.all (fun x=>decide (x.size≤16))=true)(g:Gen St Bool)(s:St):(pkG g L s).1.size≤16:=by
 show(L.getD _ _).size≤16
 rw[List.getD_eq_getElem?_getD]
 cases e:L[(g.bl L.length s).1]? with
 |none=>exact Nat.zero_le _
 |some x=>
  have:=List.all_eq_true.1 hL x (List.mem_of_getElem? e)
  exact of_decide_eq_true this
theorem ndS{g:Gen St Bool}(H:Nd1 g){k:Int}{L:List ByteArray}{s:St}{l:List Bool}(hL:L.all (fun x=>decide (x.size≤16))=true)(h:l.all id=true):g.nd (nodeS k (pkG g L s).1) l=true:=H _ _ (pk_sz hL _ _) (Nat.zero_le _) h
theorem times1{E:St→Bool×St}(h:Tr1 E):∀n s,(timesG E n s).1.all id=true:=by
 intro n
 induction n with
 |zero=>intro s;rfl
 |succ n ih=>intro s;simp only[timesG,List.all_cons,Bool.and_eq_true];exact⟨h s,ih _⟩
theorem list1{g:Gen St Bool}{E:St→Bool×St}(h:Tr1 E)(a b:Nat)(s:St):(listG g E a b s).1.all id=true:=times1 h _ _
theorem one1{b:Bool}(h:b=true):[b].all id=true:=by simp[h]
theorem two1{b c:Bool}(h:b=true)(h2:c=true):[b,c].all id=true:=by simp[h,h2]
theorem three1{b c d:Bool}(h:b=true)(h2:c=true)(h3:d=true):[b,c,d].all id=true:=by simp[h,h2,h3]
theorem word1{g:Gen St Bool}(H:Nd1 g):Tr1 (wordG g):=fun s=>ndS H (by decide) rfl
theorem leaf1{g:Gen St Bool}(H:Nd1 g):Tr1 (leafG g):=by
 intro s
 unfold leafG
 dsimp only
 generalize (g.bl 7 s).1=b
 rcases b with _|_|_|b
 all_goals try dsimp only
 ·exact ndS H (by decide) rfl
 ·exact ndS H (by decide) rfl
 ·show(if(g.bl 2 (g.bl 7 s).2).1=0 then _ else _:Bool×St).1=true
  split
  ·exact ndS H (by decide) rfl
  ·exact word1 H _
 ·exact word1 H _
section
variable {g:Gen St Bool} (H:Nd1 g) {E1 E2 E3:St→Bool×St} (h1:Tr1 E1) (h2:Tr1 E2) (h3:Tr1 E3)
include H h1 h2
theorem lval1:Tr1 (lvalG g E1 E2):=by
 intro s
 unfold lvalG
 dsimp only
 generalize (g.bl 4 s).1=b
 rcases b with _|_|b
 all_goals try dsimp only
 ·exact ndS H (by decide) (one1 (h1 _))
 ·exact ndO H (one1 (h2 _))
 ·exact word1 H _
include h3
theorem step1:Tr1 (stepG g E1 E2 E3):=by
 intro s
 unfold stepG
 dsimp only
 generalize (g.bl 2 s).1=i
 generalize (g.bl 16 (g.bl 2 s).2).1=b
 rcases b with _|_|_|_|_|_|_|_|_|_|_|_|b
 all_goals try dsimp only
 ·exact leaf1 H _
 ·exact lval1 H h1 h2 _
 ·exact ndO H (one1 (h1 _))
 ·exact ndS H (by decide) (list1 h1 _ _ _)
 ·exact ndS H (by decide) (list1 h2 _ _ _)
 ·exact ndO H (one1 (lval1 H h2 h3 _))
 ·exact ndO H (one1 (lval1 H h2 h3 _))
 ·exact ndO H (one1 (h1 _))
 ·exact ndO H (one1 (h1 _))
 ·exact ndS H (by decide) (list1 h1 _ _ _)
 ·exact ndO H (three1 (h1 _) (h1 _) (h1 _))
 ·exact ndO H (two1 (lval1 H h2 h3 _) (h1 _))
 ·exact ndO H (two1 (h1 _) (h1 _))
end
theorem exprs1{g:Gen St Bool}(H:Nd1 g):∀d,Tr1 (exprs g d).1∧Tr1 (exprs g d).2.1∧Tr1 (exprs g d).2.2:=by
 intro d
 induction d with
 |zero=>exact⟨leaf1 H,leaf1 H,leaf1 H⟩
 |succ d ih=>exact⟨step1 H ih.1 ih.2.1 ih.2.2,ih.1,ih.2.1⟩
theorem expr1{g:Gen St Bool}(H:Nd1 g)(d:Nat):Tr1 (exprG g d):=(exprs1 H d).1
section
variable {g:Gen St Bool} (H:Nd1 g) {A B C:St→Bool×St} (ha:Tr1 A) (hb:Tr1 B) (hc:Tr1 C)
include H ha
theorem maybe1:Tr1 (maybeG g A):=by
 intro s
 unfold maybeG
 split
 ·exact ndO H rfl
 ·exact ha _
theorem block1:Tr1 (blockG g A):=fun s=>ndO H (times1 ha _ _)
include hb
theorem simple1:Tr1 (simpleG g A B):=by
 intro s
 have pr:∀u,((fun(u:St)=>
  let o:=g.bl 2 u
  let l:=listG g A o.1 3 o.2
  let c:=g.bl 3 l.2
  if c.1=0 then
   let x:=pkG g l7OutL c.2
   let e:=B x.2
   (g.nd ⟨21,(o.1:Int),⟨#[]⟩,x.1,[]⟩ (l.1++[e.1]),e.2)
  else(g.nd (nodeO 21 (o.1:Int)) l.1,c.2)) u).1=true:=by
  intro u
  dsimp only
  split
  ·exact H _ _ (Nat.zero_le _) (pk_sz (by decide) _ _) (by simp only[List.all_append,Bool.and_eq_true];exact⟨list1 ha _ _ _,one1 (hb _)⟩)
  ·exact ndO H (list1 ha _ _ _)
 unfold simpleG
 dsimp only
 generalize (g.bl 9 s).1=b
 rcases b with _|_|_|_|_|_|b
 all_goals try dsimp only
 ·exact pr _
 ·exact pr _
 ·exact ndO H rfl
 ·exact ndO H (list1 ha _ _ _)
 ·exact ndS H (by decide) (list1 hb _ _ _)
 ·show(if(g.bl 2 _).1=0 then _ else _:Bool×St).1=true
  split
  ·exact ndS H (by decide) rfl
  ·exact ndO H (one1 (ha _))
 ·exact ndO H (one1 (ha _))
include hc
theorem comp1:Tr1 (compG g A B C):=by
 intro s
 unfold compG
 dsimp only
 generalize (g.bl 6 s).1=b
 rcases b with _|_|_|_|_|b
 all_goals try dsimp only
 ·exact ndO H (two1 (ha _) (hc _))
 ·exact ndO H (three1 (ha _) (hc _) (hc _))
 ·exact ndO H (two1 (ha _) (hc _))
 ·exact ndO H (two1 (hc _) (ha _))
 ·refine ndO H ?_
  simp only[List.all_cons,List.all_nil,Bool.and_eq_true,id]
  exact⟨maybe1 H hb _,maybe1 H ha _,maybe1 H ha _,hc _,trivial⟩
 ·show(if(g.bl 2 _).1=0 then _ else _:Bool×St).1=true
  split
  ·exact hc _
  ·exact H _ _ (pk_sz (by decide) _ _) (pk_sz (by decide) _ _) (one1 (hc _))
end
theorem stmt1{g:Gen St Bool}(H:Nd1 g):∀d,Tr1 (stmtG g d):=by
 intro d
 induction d with
 |zero=>exact simple1 H (expr1 H 0) (expr1 H 0)
 |succ d ih=>
  intro s
  unfold stmtG
  split
  ·exact comp1 H (expr1 H 1) (expr1 H 2) (block1 H ih) _
  ·exact simple1 H (expr1 H _) (expr1 H _) _
theorem item1{g:Gen St Bool}(H:Nd1 g):Tr1 (itemG g):=by
 intro s
 unfold itemG
 dsimp only
 have hB:Tr1 (blockG g (stmtG g (1+(g.bl 2 s).1))):=block1 H (stmt1 H _)
 have hE:Tr1 (exprG g (1+(g.bl 2 s).1)):=expr1 H _
 have h1:Tr1 (exprG g 1):=expr1 H 1
 generalize blockG g (stmtG g (1+(g.bl 2 s).1))=Bk at hB⊢
 generalize exprG g (1+(g.bl 2 s).1)=E at hE⊢
 generalize (g.bl 8 (g.bl 2 s).2).1=b
 rcases b with _|_|_|_|_|_|_|b
 all_goals try dsimp only
 ·exact ndO H (one1 (hB _))
 ·exact ndO H (one1 (hE _))
 ·exact ndO H (one1 (hB _))
 ·exact ndO H (two1 (h1 _) (h1 _))
 ·exact ndO H (three1 (h1 _) (h1 _) (hB _))
 ·exact ndS H (by decide) (by simp only[List.all_append,Bool.and_eq_true];exact⟨times1 (word1 H) _ _,one1 (hB _)⟩)
 ·exact ndS H (by decide) rfl
 ·exact ndO H (two1 (hE _) (hB _))
theorem prog1{g:Gen St Bool}(H:Nd1 g):Tr1 (progG g):=fun s=>ndO H (times1 (item1 H) _ _)
theorem nd_sz(zs:List Int):Nd1 (szG zs):=by
 intro n l h1 h2 h
 show(decide (n.s.size≤16)&&decide (n.t.size≤16)&&l.all id)=true
 rw[h,decide_eq_true h1,decide_eq_true h2]
 rfl
theorem expr_str(zs:List Int)(d:Nat)(s:St):∀t∈(exprG (exactG zs) d s).1,Sh t:=((exact_sz zs).expr d s s rfl).1 (expr1 (nd_sz zs) d s)
theorem stmt_str(zs:List Int)(d:Nat)(s:St):∀t∈(stmtG (exactG zs) d s).1,Sh t:=((exact_sz zs).stmt d s s rfl).1 (stmt1 (nd_sz zs) d s)
theorem prog_str(zs:List Int)(s:St):∀t∈(progG (exactG zs) s).1,Sh t:=((exact_sz zs).prog s s rfl).1 (prog1 (nd_sz zs) s)
end Go.Proofs.YtnoagleifffkcaaGreatDoor.draw.sz

namespace Go.Proofs.YtnoagleifffkcaaGreatDoor.draw
open Lib (hid)
open Go.ChangeShapes Go.WideShapes Go.ChangeAt Go.RowKit
open nd lcg
open sz (Sh expr_str stmt_str prog_str)
set_option linter.unusedVariables false
set_option maxRecDepth 20000
section
variable {B p len cap:Nat} {a:Option Addr} {zs:List Int}
theorem item_ok{w:World}{s:St}(H:In B w p a len cap zs s):
  Calls Tryz.prog 191 #[.pointer (some ⟨p,0,none⟩)] w (TOut B p a len cap zs (itemG (exactG zs) s).1 (itemG (exactG zs) s).2 w):=by
 obtain⟨K2,hO⟩:∃K,((exactG zs).bl 2 s).1=K:=⟨_,rfl⟩
 obtain⟨u,hu⟩:∃u,((exactG zs).bl 2 s).2=u:=⟨_,rfl⟩
 obtain⟨K,hK⟩:∃K,((exactG zs).bl 8 u).1=K:=⟨_,rfl⟩
 obtain⟨t,ht⟩:∃t,((exactG zs).bl 8 u).2=t:=⟨_,rfl⟩
 have e:=exact_lt zs 2 s (by decide)
 have hb:=exact_lt zs 8 u (by decide)
 rw[item_arm,hO,hu,hK,ht]
 rw[hO]at e
 rw[hK]at hb
 have z1:SmE 21 (exprG (exactG zs) 1):=((exprs_small zs 1).1).mono (by decide)
 have z2:SmE 21 (exprG (exactG zs) 2):=((exprs_small zs 2).1).mono (by decide)
 have hA:Itm B p len cap a zs (1+(K2:Int)) (exprG (exactG zs) 1) (exprG (exactG zs) (1+K2)) (blockG (exactG zs) (stmtG (exactG zs) (1+K2))):=by
  rcases(show K2=0∨K2=1 by omega)with rfl|rfl
  ·obtain⟨q1,q2⟩:=stmt_all B p len cap a zs 1 (by decide)
   exact⟨by decide,by decide,expr_ok 1 (by decide) B p len cap a zs,expr_ok 1 (by decide) B p len cap a zs,block_ok (D:=1) (by decide) q1 q2 (by decide),z1,z1,(block_small q2).mono (by decide)⟩
  ·obtain⟨q1,q2⟩:=stmt_all B p len cap a zs 2 (by decide)
   exact⟨by decide,by decide,expr_ok 1 (by decide) B p len cap a zs,expr_ok 2 (by decide) B p len cap a zs,block_ok (D:=2) (by decide) q1 q2 (by decide),z1,z2,(block_small q2).mono (by decide)⟩
 rcases(show K=0∨K=1∨K=2∨K=3∨K=4∨K=5∨K=6∨K=7 by omega)with rfl|rfl|rfl|rfl|rfl|rfl|rfl|rfl
 ·exact item0 hA H hO e hu hK ht
 ·exact item1 hA H hO e hu hK ht
 ·exact item2 hA H hO e hu hK ht
 ·exact item3 hA H hO e hu hK ht
 ·exact item4 hA H hO e hu hK ht
 ·exact item5 hA H hO e hu hK ht
 ·exact item6 hA H hO e hu hK ht
 ·exact item7 hA H hO e hu hK ht
theorem itemA_small{A1 Ed Bk:St→List Nd×St}(h1:SmE 5000 A1)(he:SmE 5000 Ed)(hb:SmE 5000 Bk)(b:Nat)(t:St):Small 15001 (itemA (exactG zs) A1 Ed Bk b t).1:=by
 rcases b with _|_|_|_|_|_|_|b
 ·exact(sm1 _ (hb _)).mono (by decide)
 ·exact(sm1 _ (he _)).mono (by decide)
 ·exact(sm1 _ (hb _)).mono (by decide)
 ·exact(sm_list (m:=2) _ (sm_cons (h1 _) (sm_cons (h1 _) sm_nil)) (by decide)).mono (by decide)
 ·exact(sm_list (m:=3) _ (sm_cons (h1 _) (sm_cons (h1 _) (sm_cons (hb _) sm_nil))) (by decide)).mono (by decide)
 ·have h3:=exact_lt zs 3 t (by decide)
  obtain⟨l1,l2⟩:=times_small (word_small zs) ((exactG zs).bl 3 t).1 ((exactG zs).bl 3 t).2
  refine sm_list (k:=5000) (m:=3) _ ⟨fun q hq=> ?_,by simp;omega⟩ (by decide)
  rcases List.mem_append.1 hq with h|h
  ·exact(l1 q h).mono (by decide)
  ·rw[List.mem_singleton]at h;rw[h];exact hb _
 ·exact(sm0 _).mono (by decide)
 ·exact(sm_list (m:=2) _ (sm_cons (he _) (sm_cons (hb _) sm_nil)) (by decide)).mono (by decide)
theorem item_small:SmE 15001 (itemG (exactG zs)):=by
 intro s
 have e:=exact_lt zs 2 s (by decide)
 rw[item_arm]
 have z1:SmE 5000 (exprG (exactG zs) 1):=((exprs_small zs 1).1).mono (by decide)
 have z2:SmE 5000 (exprG (exactG zs) 2):=((exprs_small zs 2).1).mono (by decide)
 obtain⟨K2,hO⟩:∃K,((exactG zs).bl 2 s).1=K:=⟨_,rfl⟩
 rw[hO]at e
 rw[hO]
 rcases(show K2=0∨K2=1 by omega)with rfl|rfl
 ·exact itemA_small z1 z1 ((block_small (stmt_all 0 0 0 0 none zs 1 (by decide)).2).mono (by decide)) _ _
 ·exact itemA_small z1 z2 ((block_small (stmt_all 0 0 0 0 none zs 2 (by decide)).2).mono (by decide)) _ _
theorem least{P:Nat→Prop}(h:∃k,P k):∃k,P k∧∀j,P j→k≤j:=by
 obtain⟨k,hk⟩:=h
 have key:∀n k,k≤n→P k→∃k,P k∧∀j,P j→k≤j:=by
  intro n
  induction n with
  |zero=>intro k hkn hk;exact⟨k,hk,fun j _=>by omega⟩
  |succ n ih=>
   intro k hkn hk
   by_cases hj:∃j,j<k∧P j
   ·obtain⟨j,h1,h2⟩:=hj
    exact ih j (by omega) h2
   ·exact⟨k,hk,fun j hpj=>by
     rcases Nat.lt_or_ge j k with h|h
     ·exact absurd ⟨j,h,hpj⟩ hj
     ·exact h⟩
 exact key k k (Nat.le_refl _) hk
noncomputable def mu {α:Type} (f:α→Bool×α) (he:∀s,∃k,EndsIn f k s) (s:α):Nat:=Classical.choose (least (he s))
theorem mu_step{α:Type}(f:α→Bool×α)(he:∀s,∃k,EndsIn f k s)(s:α)(h:(f s).1=false):mu f he (f s).2<mu f he s:=by
 have h1:=Classical.choose_spec (least (he s))
 have h2:=Classical.choose_spec (least (he (f s).2))
 show Classical.choose (least (he (f s).2))<Classical.choose (least (he s))
 generalize Classical.choose (least (he (f s).2))=k2 at h2
 generalize Classical.choose (least (he s))=k1 at h1
 cases k1 with
 |zero=>exact absurd h1.1 (fun e=>e)
 |succ n=>
  rcases h1.1 with e|e
  ·rw[h]at e;cases e
  ·have:=h2.2 n e
   omega
def curOf(w:World)(p:Nat):St:=
 match w.heap[p]? with
 |some (Obj.cells c _ _)=>(match c[1]?,c[2]? with
  |some (Value.int _ i),some (Value.int _ h)=>(i.toNat,h)
  |_,_=>(0,0))
 |_=>(0,0)
theorem cur_of{w:World}{s:St}(H:In B w p a len cap zs s):curOf w p=s:=by
 have h:=H.cur
 unfold Cur at h
 unfold curOf
 rw[h]
 obtain⟨i,h⟩:=s
 simp
def RelRed(B p len cap:Nat)(a:Option Addr)(zs:List Int)(W wr:World):Prop:=∃s,In B wr p a len cap zs s∧W.grownBy wr (some p)
def TAnyX(B p:Nat)(a:Option Addr)(len cap:Nat)(zs:List Int)(w:World)(e:Ending)(w':World):Prop:=
 ∃q s',TOut B p a len cap zs q s' w e w'∧Small 2300 q∧(∀t∈q,Sh t)∧(∀t∈q,ar.Ar t)∧dq.Pc 14 q
def TAny(B p:Nat)(a:Option Addr)(len cap:Nat)(zs:List Int)(w:World)(e:Ending)(w':World):Prop:=
 ∃q s',TOut B p a len cap zs q s' w e w'∧Small 2300 q∧∀t∈q,Sh t
theorem TAnyX.any{B p:Nat}{a:Option Addr}{len cap:Nat}{zs:List Int}{w:World}{e:Ending}{w':World}(h:TAnyX B p a len cap zs w e w'):TAny B p a len cap zs w e w':=by
 obtain⟨q,s',h1,h2,h3,_⟩:=h
 exact⟨q,s',h1,h2,h3⟩
set_option maxHeartbeats 1600000 in
theorem some_okx{w:World}{s:St}(H:In B w p a len cap zs s):
  Calls Tryz.prog 47 #[.pointer (some ⟨p,0,none⟩)] w (TAnyX B p a len cap zs w):=by
 have HI:=hid H
 have HP:=H.lt
 clear H
 go_enter Tryz.func47,Tryz.ntmps47
 go_wp2
 go_loopw [3] (fun _ wr=>RelRed B p len cap a zs w wr) (fun _ wr=>mu (rdE 60 (someG (exactG zs))) (some_every zs) (curOf wr p))
 case atStart=>exact⟨s,HI.out,grown_refl⟩
 case round=>
  obtain⟨s',hI,hG⟩:=hrel
  have HIr:=hid hI
  have HGr:=hid hG
  clear hI hG
  obtain⟨K,hK⟩:∃K,((exactG zs).bl 4 s').1=K:=⟨_,rfl⟩
  obtain⟨u,hu⟩:∃u,((exactG zs).bl 4 s').2=u:=⟨_,rfl⟩
  have hk:=exact_lt zs 4 s' (by decide)
  rw[hK]at hk
  have HQ:=hid (show someG (exactG zs) s'=exprG (exactG zs) (1+K) u by unfold someG;rw[hK,hu])
  have HK:=hid hK
  have HU:=hid hu
  have hsm:Small 300 (exprG (exactG zs) (1+K) u).1:=((exprs_small zs (1+K)).1 u).mono (by rcases(show K=0∨K=1∨K=2∨K=3 by omega)with rfl|rfl|rfl|rfl<;>decide)
  have HSM:=hid hsm
  have HZ:(exprG (exactG zs) (1+K) u).1.length≤300:=hsm.2.1
  have hE:=expr_ok (1+K) (by omega) B p len cap a zs
  rw[show(((1+K:Nat)):Int)=1+(K:Int) by omega]at hE
  have HE:=hid hE
  clear hK hu hsm hE
  go_wp2_with fail
  refine(bl_ok 4 (by decide) HK.out HIr.out).mono ?_
  rintro e w1 ⟨rfl,I1,G1⟩
  rw[HU.out]at I1
  have j:=hid (grown_trans HGr.out G1)
  clear G1
  go_wp2_with fail
  refine(HE.out _ _ I1).mono ?_
  rintro e w2 ⟨v,rfl,T2,I2,G2⟩
  obtain⟨a2,c2,rfl⟩:=T2.form
  have HM:=hid (show TOut B p a len cap zs (exprG (exactG zs) (1+K) u).1 (exprG (exactG zs) (1+K) u).2 w _ w2 from TOut.back j.out HP ⟨_,rfl,T2,I2,G2⟩)
  have y:=hid I2
  have F:=hid (grown_trans j.out G2)
  obtain⟨n,hn⟩:∃n,(exprG (exactG zs) (1+K) u).1.length=n:=⟨_,rfl⟩
  have HN:=hid hn
  rw[hn]at HM HZ⊢
  clear T2 I2 G2 I1 hn
  by_cases hlt:n≤60
  ·have hi:(n:Int)≤60:=by omega
   go_wp2
   go_ret
   exact⟨_,_,HM.out,HSM.mono (by decide),expr_str zs _ _,ar.expr_ar zs _ _,(dq.expr_pc zs (1+K) u).mono (by omega)⟩
  ·have hi:¬(n:Int)≤60:=by omega
   go_wp2
   go_roundw
   case rel=>exact⟨_,y.out,F.out⟩
   case measure=>
    rw[cur_of HIr.out,cur_of y.out]
    have h:=mu_step (rdE 60 (someG (exactG zs))) (some_every zs) s' (by
     show Nat.ble (someG (exactG zs) s').1.length 60=false
     rw[HQ.out,HN.out]
     cases hb:Nat.ble n 60 with
     |false=>rfl
     |true=>exact absurd (Nat.le_of_ble_eq_true hb) hlt)
    have e2:(rdE 60 (someG (exactG zs)) s').2=(exprG (exactG zs) (1+K) u).2:=by
     show(someG (exactG zs) s').2=_
     rw[HQ.out]
    rw[e2]at h
    exact h
end
end Go.Proofs.YtnoagleifffkcaaGreatDoor.draw

namespace Go.Proofs.YtnoagleifffkcaaGreatDoor.draw
open Lib (hid)
open Go.ChangeShapes Go.WideShapes Go.ChangeAt Go.RowKit
open nd lcg
open sz (Sh expr_str stmt_str prog_str)
set_option linter.unusedVariables false
set_option maxRecDepth 20000
section
variable {B p len cap:Nat} {a:Option Addr} {zs:List Int}
set_option maxHeartbeats 3200000 in
theorem prog_okx{w:World}{s:St}(H:In B w p a len cap zs s):
  Calls Tryz.prog 126 #[.pointer (some ⟨p,0,none⟩)] w (TAnyX B p a len cap zs w):=by
 have HI:=hid H
 have HP:=H.lt
 clear H
 go_enter Tryz.func126,Tryz.ntmps126
 go_wp2
 go_loopw [3,4,5] (fun _ _ _ wr=>RelRed B p len cap a zs w wr) (fun _ _ _ wr=>mu (rdE 220 (progG (exactG zs))) (prog_every zs) (curOf wr p))
 case atStart=>exact⟨s,HI.out,grown_refl⟩
 case round=>
  obtain⟨j,rfl⟩:∃wo:World,wo=wr:=⟨_,rfl⟩
  obtain⟨s',hI,hG⟩:=hrel
  have HIr:=hid hI
  have HGr:=hid hG
  have HPr:=hI.lt
  clear hI hG
  have hb:=exact_lt zs 4 s' (by decide)
  obtain⟨N,hN⟩:∃N,((exactG zs).bl 4 s').1=N:=⟨_,rfl⟩
  obtain⟨t,ht⟩:∃t,((exactG zs).bl 4 s').2=t:=⟨_,rfl⟩
  rw[hN]at hb
  have HN:=hid hN
  have HT:=hid ht
  have HQ:=hid (show progG (exactG zs) s'=(makeT (nodeO 45 0) (timesG (itemG (exactG zs)) N t).1,(timesG (itemG (exactG zs)) N t).2) by unfold progG;rw[hN,ht];rfl)
  clear hN ht
  have L0:=hid (LS.start HIr.out (Nat.le_refl _) HPr)
  have P:=hid (grown_below (p:=p) grown_refl ((Below.refl j.heap.size j).alloc (Nat.le_refl _) (.cells #[] 24)) rfl)
  go_wp2_with fail
  refine(bl_ok 4 (by decide) HN.out L0.cur).mono ?_
  rintro e w1 ⟨rfl,I1,G1⟩
  rw[HT.out]at I1
  have L1:=hid (L0.next I1 G1)
  have X:=hid (grown_trans P.out G1)
  clear I1 G1
  go_wp2
  go_loopw [3,4] (fun v n wr=>RelList B p len cap a zs j (itemG (exactG zs)) N t v n wr) (fun _ n _=>(intOf n).toNat)
  case atStart=>exact⟨0,j.heap.size,0,[],by omega,by simp,rfl,L1.out,X.out⟩
  case round=>
   obtain⟨I,g,c,vs,hI,rfl,rfl,hls,hgr⟩:=hrel
   have hvl:=hls.ln
   rw[times_len]at hvl
   subst hvl
   have HL:=hid hls
   have HG:=hid hgr
   clear hls hgr
   by_cases hlt:vs.length<N
   ·have hi:(vs.length:Int)<(N:Int):=by omega
    have S:0<(N:Int)-(vs.length:Int):=by omega
    go_wp2_with fail
    refine(item_ok HL.cur).mono ?_
    rintro e w2 ⟨u,rfl,T2,I2,G2⟩
    obtain⟨au,cu,rfl⟩:=T2.form
    have L2:=hid (HL.next I2 G2)
    have Y:=hid T2
    have V:=hid (grown_trans HG.out G2)
    clear T2 I2 G2
    go_wp2_with (refine wpList_append_tree _ _ rfl _ _ rfl j.heap.size (.slice (some ⟨g,0,none⟩) vs.length c) vs rfl L2.own rfl rfl (by omega) L2.lw ?_;intro g3 c3 w3 K G O;have L3:=hid (L2.push Y.out HL.g_lt.2 K G (O.imp (fun e=>by simpa [Value.ownBlock]using e) id));have J:=hid (L2.grown V.out (Nat.le_refl _) G))
    go_roundw
    case rel=>
     refine⟨vs.length+1,g3,c3,vs++[.slice au (itemG (exactG zs) (timesG (itemG (exactG zs)) vs.length t).2).1.length cu],by omega,by go_num,rfl, ?_⟩
     rw[times_snoc]
     exact⟨L3.out,J.out⟩
    case measure=>simp[intOf];omega
   ·obtain rfl:vs.length=N:=by omega
    have S:¬0<(vs.length:Int)-(vs.length:Int):=by omega
    have HZ:(makeT (nodeO 45 0) (timesG (itemG (exactG zs)) vs.length t).1).length≤45004:=by
     have h:=sm_list (k:=15001) (m:=3) (nodeO 45 0) ⟨(times_small (item_small (zs:=zs)) vs.length t).1,Nat.le_trans (times_small (item_small (zs:=zs)) vs.length t).2 (by omega)⟩ (by decide)
     exact h.2.1
    have HSM:=hid (sm_list (k:=15001) (m:=3) (nodeO 45 0) ⟨(times_small (item_small (zs:=zs)) vs.length t).1,Nat.le_trans (times_small (item_small (zs:=zs)) vs.length t).2 (by omega)⟩ (by decide))
    go_wp2_with fail
    refine(good_partsN (n:=nodeO 45 0) (by rw[times_len]) HL.parts (times_all (fun s=>(item_small (zs:=zs) s).good (by decide)) _ _) (by rw[times_len];omega)).mono ?_
    rintro e w4 hmk
    have HM:=hid (TOut.make HL.cur HPr HG.out (Below.refl _ _) hmk)
    clear hmk
    obtain⟨vz,rfl,T4,I4,G4⟩:=HM.out
    obtain⟨a4,c4,rfl⟩:=T4.form
    have y:=hid (TOut.back HGr.out HP HM.out)
    have F:=hid I4
    have Z:=hid (grown_trans HGr.out G4)
    obtain⟨n,hn⟩:∃n,(makeT (nodeO 45 0) (timesG (itemG (exactG zs)) vs.length t).1).length=n:=⟨_,rfl⟩
    have HNN:=hid hn
    rw[hn]at y HZ⊢
    clear T4 I4 G4 HM hn
    by_cases hle:n≤220
    ·have hi:(n:Int)≤220:=by omega
     go_wp2
     go_ret
     exact⟨_,_,y.out,⟨HSM.out.1,by rw[HNN.out];omega,HSM.out.2.2⟩,by have h:=prog_str zs s';rw[HQ.out]at h;exact h,by have h:=ar.prog_ar zs s';rw[HQ.out]at h;exact h,by have h:=dq.prog_pc zs s';rw[HQ.out]at h;exact h⟩
    ·have hi:¬(n:Int)≤220:=by omega
     go_wp2
     go_roundw
     case rel=>exact⟨_,F.out,Z.out⟩
     case measure=>
      rw[cur_of HIr.out,cur_of F.out]
      have h:=mu_step (rdE 220 (progG (exactG zs))) (prog_every zs) s' (by
       show Nat.ble (progG (exactG zs) s').1.length 220=false
       rw[HQ.out,HNN.out]
       cases hb:Nat.ble n 220 with
       |false=>rfl
       |true=>exact absurd (Nat.le_of_ble_eq_true hb) hle)
      have e2:(rdE 220 (progG (exactG zs)) s').2=(timesG (itemG (exactG zs)) vs.length t).2:=by
       show(progG (exactG zs) s').2=_
       rw[HQ.out]
      rw[e2]at h
      exact h
theorem any_okx{w:World}{s:St}(H:In B w p a len cap zs s):
  Calls Tryz.prog 80 #[.pointer (some ⟨p,0,none⟩)] w (TAnyX B p a len cap zs w):=by
 have HI:=hid H
 have HP:=H.lt
 clear H
 obtain⟨K,hK⟩:∃K,((exactG zs).bl 5 s).1=K:=⟨_,rfl⟩
 obtain⟨t,ht⟩:∃t,((exactG zs).bl 5 s).2=t:=⟨_,rfl⟩
 have hk:=exact_lt zs 5 s (by decide)
 rw[hK]at hk
 have HK:=hid hK
 have HT:=hid ht
 clear hK ht
 have y:=hid (stmt_all B p len cap a zs 2 (by decide))
 go_enter Tryz.func80,Tryz.ntmps80
 go_wp2_with fail
 refine(bl_ok 5 (by decide) HK.out HI.out).mono ?_
 rintro e w1 ⟨rfl,I1,G1⟩
 rw[HT.out]at I1
 have j:=hid I1
 have F:=hid G1
 clear I1 G1
 have hs:∀(e:Ending) (w2:World),TAnyX B p a len cap zs w1 e w2→TAnyX B p a len cap zs w e w2:=by
  rintro e w2 ⟨q,s',h1,h2⟩
  exact⟨q,s',TOut.back F.out HP h1,h2⟩
 have HSS:=hid hs
 clear hs
 rcases(show K=0∨K=1∨K=2∨K=3∨K=4 by omega)with rfl|rfl|rfl|rfl|rfl
 ·go_wp2_with fail
  refine(some_okx j.out).mono ?_
  rintro e w2 hT
  have HM:=hid (HSS.out _ _ hT)
  obtain⟨q,s',⟨v,rfl,T2,I2,G2⟩,_⟩:=hT
  obtain⟨a2,c2,rfl⟩:=T2.form
  go_wp2
  go_ret
  exact HM.out
 ·go_wp2_with fail
  refine(some_okx j.out).mono ?_
  rintro e w2 hT
  have HM:=hid (HSS.out _ _ hT)
  obtain⟨q,s',⟨v,rfl,T2,I2,G2⟩,_⟩:=hT
  obtain⟨a2,c2,rfl⟩:=T2.form
  go_wp2
  go_ret
  exact HM.out
 ·go_wp2_with fail
  refine(y.out.1 _ _ j.out).mono ?_
  rintro e w2 hT
  have HM:=hid (HSS.out _ _ ⟨_,_,hT,(y.out.2 _).mono (by decide),stmt_str zs 2 _,ar.stmt_ar zs 2 _,(dq.stmt_pc zs 2 _).mono (by decide)⟩)
  obtain⟨v,rfl,T2,I2,G2⟩:=hT
  obtain⟨a2,c2,rfl⟩:=T2.form
  go_wp2
  go_ret
  exact HM.out
 ·go_wp2_with fail
  refine(prog_okx j.out).mono ?_
  rintro e w2 hT
  have HM:=hid (HSS.out _ _ hT)
  obtain⟨q,s',⟨v,rfl,T2,I2,G2⟩,_⟩:=hT
  obtain⟨a2,c2,rfl⟩:=T2.form
  go_wp2
  go_ret
  exact HM.out
 ·go_wp2_with fail
  refine(prog_okx j.out).mono ?_
  rintro e w2 hT
  have HM:=hid (HSS.out _ _ hT)
  obtain⟨q,s',⟨v,rfl,T2,I2,G2⟩,_⟩:=hT
  obtain⟨a2,c2,rfl⟩:=T2.form
  go_wp2
  go_ret
  exact HM.out
end
end Go.Proofs.YtnoagleifffkcaaGreatDoor.draw
