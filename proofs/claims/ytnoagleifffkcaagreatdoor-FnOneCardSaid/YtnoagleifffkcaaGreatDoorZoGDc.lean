/-

-/
import Derived.Test.YtnoagleifffkcaaGreatDoorZoGDb
namespace Go.Proofs.YtnoagleifffkcaaGreatDoor.draw.ar
open nd lcg draw
set_option linter.unusedVariables false
def Ar(t:Nd):Prop:=t.k=12→t.kids.length≤2
def arG(zs:List Int):Gen St Bool:=⟨(exactG zs).bl,fun n l=>decide (n.k=12→l.length≤2)&&l.all id⟩
theorem go_ar:∀(ps:List (List Nd)) (out:List Nd) (ks:List Int),(∀q∈ps,∀t∈q,Ar t)→(∀t∈out,Ar t)→∀t∈(makeGo ps out ks).1,Ar t:=by
 intro ps
 induction ps with
 |nil=>intro out ks _ h;exact h
 |cons q ps ih=>
  intro out ks h1 h2
  refine ih _ _ (fun q' hq=>h1 q' (List.mem_cons_of_mem _ hq)) ?_
  intro t ht
  rcases List.mem_append.1 ht with ht|ht
  ·exact h2 t ht
  ·obtain⟨t',ht',rfl⟩:=List.mem_map.1 ht
   intro hk
   have:=h1 q (List.mem_cons_self ..) t' ht' hk
   simpa [shN,shK]using this
theorem go_len:∀(ps:List (List Nd)) (out:List Nd) (ks:List Int),(makeGo ps out ks).2.length=ks.length+ps.length:=by
 intro ps
 induction ps with
 |nil=>intro out ks;rfl
 |cons q ps ih=>
  intro out ks
  refine(ih _ _).trans ?_
  simp
  omega
theorem all2_ar{l:List (List Nd)}{k:List Bool}(h:All2 (fun q b=>b=true→∀t∈q,Ar t) l k):k.all id=true→∀q∈l,∀t∈q,Ar t:=by
 induction h with
 |nil=>intro _ q hq;cases hq
 |cons h1 _ ih=>
  intro hk q hq
  simp only[List.all_cons,Bool.and_eq_true,id]at hk
  rcases List.mem_cons.1 hq with e|hq
  ·rw[e];exact h1 hk.1
  ·exact ih hk.2 q hq
theorem all2_len{l:List (List Nd)}{k:List Bool}{Q:List Nd→Bool→Prop}(h:All2 Q l k):l.length=k.length:=by
 induction h with
 |nil=>rfl
 |cons _ _ ih=>simp[ih]
theorem exact_ar(zs:List Int):Step (exactG zs) (arG zs) (fun s u=>s=u) (fun q b=>b=true→∀t∈q,Ar t):=by
 refine⟨fun n s u h0 h1 h=>by subst h;exact⟨rfl,rfl⟩,fun n l k h hb t ht=> ?_⟩
 have hb':(decide (n.k=12→k.length≤2)&&k.all id)=true:=hb
 simp only[Bool.and_eq_true,decide_eq_true_eq]at hb'
 have ht':t∈(makeGo l [] []).1++[{n with kids:=(makeGo l [] []).2}]:=ht
 rcases List.mem_append.1 ht' with ht|ht
 ·exact go_ar l [] [] (all2_ar h hb'.2) (fun t ht=>by cases ht) t ht
 ·rw[List.mem_singleton]at ht
  subst ht
  intro hk
  show(makeGo l [] []).2.length≤2
  rw[go_len,all2_len h]
  have:=hb'.1 hk
  simpa using this
def Tr1(E:St→Bool×St):Prop:=∀s,(E s).1=true
def Nd1(g:Gen St Bool):Prop:=∀n l,(n.k=12→l.length≤2)→l.all id=true→g.nd n l=true
theorem ndO{g:Gen St Bool}(H:Nd1 g){k o:Int}{l:List Bool}(hk:k≠12)(h:l.all id=true):g.nd (nodeO k o) l=true:=H _ _ (fun e=>absurd e hk) h
theorem ndB{g:Gen St Bool}(H:Nd1 g){o:Int}{l:List Bool}(hl:l.length≤2)(h:l.all id=true):g.nd (nodeO 12 o) l=true:=H _ _ (fun _=>hl) h
theorem ndS{g:Gen St Bool}(H:Nd1 g){k:Int}{x:ByteArray}{l:List Bool}(hk:k≠12)(h:l.all id=true):g.nd (nodeS k x) l=true:=H _ _ (fun e=>absurd e hk) h
theorem pi_ne{g:Gen St Bool}{L:List Int}{s:St}(h:L.all (fun k=>k !=12)=true):(piG g L s).1≠12:=by
 show L.getD _ _≠12
 rw[List.getD_eq_getElem?_getD]
 cases e:L[(g.bl L.length s).1]? with
 |none=>decide
 |some x=>
  have:=List.all_eq_true.1 h x (List.mem_of_getElem? e)
  simpa using this
theorem times1{E:St→Bool×St}(h:Tr1 E):∀n s,(timesG E n s).1.all id=true:=by
 intro n
 induction n with
 |zero=>intro s;rfl
 |succ n ih=>intro s;simp only[timesG,List.all_cons,Bool.and_eq_true];exact⟨h s,ih _⟩
theorem list1{g:Gen St Bool}{E:St→Bool×St}(h:Tr1 E)(a b:Nat)(s:St):(listG g E a b s).1.all id=true:=times1 h _ _
theorem one1{b:Bool}(h:b=true):[b].all id=true:=by simp[h]
theorem two1{b c:Bool}(h:b=true)(h2:c=true):[b,c].all id=true:=by simp[h,h2]
theorem three1{b c d:Bool}(h:b=true)(h2:c=true)(h3:d=true):[b,c,d].all id=true:=by simp[h,h2,h3]
theorem word1{g:Gen St Bool}(H:Nd1 g):Tr1 (wordG g):=fun s=>ndS H (by decide) rfl
theorem leaf1{g:Gen St Bool}(H:Nd1 g):Tr1 (leafG g):=by
 intro s
 unfold leafG
 dsimp only
 generalize (g.bl 7 s).1=b
 rcases b with _|_|_|b
 all_goals try dsimp only
 ·exact ndS H (by decide) rfl
 ·exact ndS H (by decide) rfl
 ·show(if(g.bl 2 (g.bl 7 s).2).1=0 then _ else _:Bool×St).1=true
  split
  ·exact ndS H (by decide) rfl
  ·exact word1 H _
 ·exact word1 H _
section
variable {g:Gen St Bool} (H:Nd1 g) {E1 E2 E3:St→Bool×St} (h1:Tr1 E1) (h2:Tr1 E2) (h3:Tr1 E3)
include H h1 h2
theorem lval1:Tr1 (lvalG g E1 E2):=by
 intro s
 unfold lvalG
 dsimp only
 generalize (g.bl 4 s).1=b
 rcases b with _|_|b
 all_goals try dsimp only
 ·exact ndS H (by decide) (one1 (h1 _))
 ·exact ndO H (by decide) (one1 (h2 _))
 ·exact word1 H _
include h3
theorem step1:Tr1 (stepG g E1 E2 E3):=by
 intro s
 unfold stepG
 dsimp only
 generalize (g.bl 2 s).1=i
 generalize (g.bl 16 (g.bl 2 s).2).1=b
 rcases b with _|_|_|_|_|_|_|_|_|_|_|_|b
 all_goals try dsimp only
 ·exact leaf1 H _
 ·exact lval1 H h1 h2 _
 ·exact ndO H (by decide) (one1 (h1 _))
 ·exact ndS H (by decide) (list1 h1 _ _ _)
 ·exact ndS H (by decide) (list1 h2 _ _ _)
 ·exact ndO H (by decide) (one1 (lval1 H h2 h3 _))
 ·exact ndO H (by decide) (one1 (lval1 H h2 h3 _))
 ·exact ndO H (by decide) (one1 (h1 _))
 ·exact ndO H (by decide) (one1 (h1 _))
 ·exact ndS H (by decide) (list1 h1 _ _ _)
 ·exact ndO H (by decide) (three1 (h1 _) (h1 _) (h1 _))
 ·exact ndO H (by decide) (two1 (lval1 H h2 h3 _) (h1 _))
 ·exact ndB H (by simp) (two1 (h1 _) (h1 _))
end
theorem exprs1{g:Gen St Bool}(H:Nd1 g):∀d,Tr1 (exprs g d).1∧Tr1 (exprs g d).2.1∧Tr1 (exprs g d).2.2:=by
 intro d
 induction d with
 |zero=>exact⟨leaf1 H,leaf1 H,leaf1 H⟩
 |succ d ih=>exact⟨step1 H ih.1 ih.2.1 ih.2.2,ih.1,ih.2.1⟩
theorem expr1{g:Gen St Bool}(H:Nd1 g)(d:Nat):Tr1 (exprG g d):=(exprs1 H d).1
section
variable {g:Gen St Bool} (H:Nd1 g) {A B C:St→Bool×St} (ha:Tr1 A) (hb:Tr1 B) (hc:Tr1 C)
include H ha
theorem maybe1:Tr1 (maybeG g A):=by
 intro s
 unfold maybeG
 split
 ·exact ndO H (by decide) rfl
 ·exact ha _
theorem block1:Tr1 (blockG g A):=fun s=>ndO H (by decide) (times1 ha _ _)
include hb
theorem simple1:Tr1 (simpleG g A B):=by
 intro s
 have pr:∀u,((fun(u:St)=>
  let o:=g.bl 2 u
  let l:=listG g A o.1 3 o.2
  let c:=g.bl 3 l.2
  if c.1=0 then
   let x:=pkG g l7OutL c.2
   let e:=B x.2
   (g.nd ⟨21,(o.1:Int),⟨#[]⟩,x.1,[]⟩ (l.1++[e.1]),e.2)
  else(g.nd (nodeO 21 (o.1:Int)) l.1,c.2)) u).1=true:=by
  intro u
  dsimp only
  split
  ·exact H _ _ (fun e=>by simp at e) (by simp only[List.all_append,Bool.and_eq_true];exact⟨list1 ha _ _ _,one1 (hb _)⟩)
  ·exact ndO H (by decide) (list1 ha _ _ _)
 unfold simpleG
 dsimp only
 generalize (g.bl 9 s).1=b
 rcases b with _|_|_|_|_|_|b
 all_goals try dsimp only
 ·exact pr _
 ·exact pr _
 ·exact ndO H (pi_ne (by decide)) rfl
 ·exact ndO H (pi_ne (by decide)) (list1 ha _ _ _)
 ·exact ndS H (by decide) (list1 hb _ _ _)
 ·show(if(g.bl 2 _).1=0 then _ else _:Bool×St).1=true
  split
  ·exact ndS H (by decide) rfl
  ·exact ndO H (by decide) (one1 (ha _))
 ·exact ndO H (by decide) (one1 (ha _))
include hc
theorem comp1:Tr1 (compG g A B C):=by
 intro s
 unfold compG
 dsimp only
 generalize (g.bl 6 s).1=b
 rcases b with _|_|_|_|_|b
 all_goals try dsimp only
 ·exact ndO H (by decide) (two1 (ha _) (hc _))
 ·exact ndO H (by decide) (three1 (ha _) (hc _) (hc _))
 ·exact ndO H (by decide) (two1 (ha _) (hc _))
 ·exact ndO H (by decide) (two1 (hc _) (ha _))
 ·refine ndO H (by decide) ?_
  simp only[List.all_cons,List.all_nil,Bool.and_eq_true,id]
  exact⟨maybe1 H hb _,maybe1 H ha _,maybe1 H ha _,hc _,trivial⟩
 ·show(if(g.bl 2 _).1=0 then _ else _:Bool×St).1=true
  split
  ·exact hc _
  ·exact H _ _ (fun e=>by simp at e) (one1 (hc _))
end
theorem stmt1{g:Gen St Bool}(H:Nd1 g):∀d,Tr1 (stmtG g d):=by
 intro d
 induction d with
 |zero=>exact simple1 H (expr1 H 0) (expr1 H 0)
 |succ d ih=>
  intro s
  unfold stmtG
  split
  ·exact comp1 H (expr1 H 1) (expr1 H 2) (block1 H ih) _
  ·exact simple1 H (expr1 H _) (expr1 H _) _
theorem item1{g:Gen St Bool}(H:Nd1 g):Tr1 (itemG g):=by
 intro s
 unfold itemG
 dsimp only
 have hB:Tr1 (blockG g (stmtG g (1+(g.bl 2 s).1))):=block1 H (stmt1 H _)
 have hE:Tr1 (exprG g (1+(g.bl 2 s).1)):=expr1 H _
 have h1:Tr1 (exprG g 1):=expr1 H 1
 generalize blockG g (stmtG g (1+(g.bl 2 s).1))=Bk at hB⊢
 generalize exprG g (1+(g.bl 2 s).1)=E at hE⊢
 generalize (g.bl 8 (g.bl 2 s).2).1=b
 rcases b with _|_|_|_|_|_|_|b
 all_goals try dsimp only
 ·exact ndO H (by omega) (one1 (hB _))
 ·exact ndO H (by decide) (one1 (hE _))
 ·exact ndO H (by decide) (one1 (hB _))
 ·exact ndO H (by decide) (two1 (h1 _) (h1 _))
 ·exact ndO H (by decide) (three1 (h1 _) (h1 _) (hB _))
 ·exact ndS H (by decide) (by simp only[List.all_append,Bool.and_eq_true];exact⟨times1 (word1 H) _ _,one1 (hB _)⟩)
 ·exact ndS H (by decide) rfl
 ·exact ndO H (by decide) (two1 (hE _) (hB _))
theorem prog1{g:Gen St Bool}(H:Nd1 g):Tr1 (progG g):=fun s=>ndO H (by decide) (times1 (item1 H) _ _)
theorem nd_ar(zs:List Int):Nd1 (arG zs):=by
 intro n l h1 h
 show(decide (n.k=12→l.length≤2)&&l.all id)=true
 rw[h,decide_eq_true h1]
 rfl
theorem expr_ar(zs:List Int)(d:Nat)(s:St):∀t∈(exprG (exactG zs) d s).1,Ar t:=((exact_ar zs).expr d s s rfl).1 (expr1 (nd_ar zs) d s)
theorem stmt_ar(zs:List Int)(d:Nat)(s:St):∀t∈(stmtG (exactG zs) d s).1,Ar t:=((exact_ar zs).stmt d s s rfl).1 (stmt1 (nd_ar zs) d s)
theorem prog_ar(zs:List Int)(s:St):∀t∈(progG (exactG zs) s).1,Ar t:=((exact_ar zs).prog s s rfl).1 (prog1 (nd_ar zs) s)
end Go.Proofs.YtnoagleifffkcaaGreatDoor.draw.ar

namespace Go.Proofs.YtnoagleifffkcaaGreatDoor.draw
open nd lcg
set_option linter.unusedVariables false
theorem byte_up(zs:List Int)(n:Nat)(s:St)(h0:0<n)(h1:n≤256):s.1≤(belowF zs n s).2.1∧(s.1<zs.length→s.1<(belowF zs n s).2.1):=by
 unfold belowF
 rw[if_neg (by omega),if_pos (by omega)]
 unfold byteF
 split
 ·exact⟨Nat.le_succ _,fun _=>Nat.lt_succ_self _⟩
 ·rename_i hc
  exact⟨Nat.le_refl _,fun h=>absurd h hc⟩
theorem exact_up(zs:List Int)(i:Nat):Step (exactG zs) (exactG zs) (fun s u=>s=u∧i≤s.1) (fun _ _=>True):=by
 refine⟨fun n s u h0 h1 h=> ?_,fun n l k h=>trivial⟩
 obtain⟨rfl,h⟩:=h
 exact⟨rfl,rfl,Nat.le_trans h (byte_up zs n s h0 h1).1⟩
theorem some_up(zs:List Int)(s:St)(h:s.1<zs.length):s.1<(someG (exactG zs) s).2.1:=
 ((exact_up zs (s.1+1)).expr (1+((exactG zs).bl 4 s).1) ((exactG zs).bl 4 s).2 _ ⟨rfl,(byte_up zs 4 s (by decide) (by decide)).2 h⟩).2.2
theorem prog_up(zs:List Int)(s:St)(h:s.1<zs.length):s.1<(progG (exactG zs) s).2.1:=
 (times_two (exact_up zs (s.1+1)).item ((exactG zs).bl 4 s).1 ((exactG zs).bl 4 s).2 _ ⟨rfl,(byte_up zs 4 s (by decide) (by decide)).2 h⟩).2.2
theorem low_of(h:Int):(((h%18446744073709551616).toNat:Nat):Int)=h%18446744073709551616∧(h%18446744073709551616).toNat<18446744073709551616:=by
 have h0:=Int.emod_nonneg h (show(18446744073709551616:Int)≠0 by decide)
 have h1:=Int.emod_lt_of_pos h (show(0:Int)<18446744073709551616 by decide)
 generalize h%18446744073709551616=z at h0 h1⊢
 omega
theorem ends_every(zs:List Int)(n:Nat)(E:St→List Nd×St)(F:Nat→Nat×Nat)(hfn:∀i,Fn (AtU zs i) (fun q k=>q.length=k) E F)(he:∀u,u<18446744073709551616→∃k,EndsIn (fun u=>rd n (F u)) k u)
  (hup:∀s:St,s.1<zs.length→s.1<(E s).2.1):∀s:St,∃k,EndsIn (rdE n E) k s:=by
 have main:∀m (s:St),zs.length-s.1=m→∃k,EndsIn (rdE n E) k s:=by
  intro m
  induction m using Nat.strongRecOn with
  |ind m ih=>
   intro s hm
   by_cases hlt:s.1<zs.length
   ·have:=hup s hlt
    obtain⟨k,hk⟩:=ih (zs.length-(E s).2.1) (by omega) (E s).2 rfl
    exact⟨k+1,.inr hk⟩
   ·obtain⟨e1,e2⟩:=low_of s.2
    obtain⟨k,hk⟩:=he _ e2
    exact⟨k,ends_behind zs s.1 n E F (hfn s.1) k s _ ⟨rfl,by omega,e1⟩ hk⟩
 exact fun s=>main _ s rfl
theorem some_every(zs:List Int):∀s:St,∃k,EndsIn (rdE 60 (someG (exactG zs))) k s:=
 ends_every zs 60 _ (someG fast) (fun i=>(exact_fast zs i).some) some_ends (some_up zs)
theorem prog_every(zs:List Int):∀s:St,∃k,EndsIn (rdE 220 (progG (exactG zs))) k s:=
 ends_every zs 220 _ (progG fast) (fun i=>(exact_fast zs i).prog) prog_ends (prog_up zs)
end Go.Proofs.YtnoagleifffkcaaGreatDoor.draw

namespace Go.Proofs.YtnoagleifffkcaaGreatDoor.draw
open Go.ChangeShapes Go.WideShapes Go.ChangeAt Go.RowKit
open nd
set_option linter.unusedVariables false
theorem TOut.make{B p len cap:Nat}{a:Option Addr}{zs:List Int}{s':St}{q:List Nd}{w w1 w2 w3:World}{e:Ending}(hI:In B w1 p a len cap zs s')(hp:p<w.heap.size)(hG:w.grownBy w1 (some p))(hb:Below w1.heap.size w1 w2)(h:PgOut q w2 e w3):TOut B p a len cap zs q s' w e w3:=by
 obtain⟨v,z,r,rfl,hz,pt,j,ge⟩:=h
 have h1:=hG.size
 have h2:=hb.size
 refine⟨v,rfl,⟨hp,z,r,hz,pt.up (by omega),fun i hi _=>by have:=ge i hi;omega⟩, ?_, ?_⟩
 ·exact(hI.keep hb hI.lt).keep j (by omega)
 ·exact grown_below hG ((hb.mono h1).trans (j.mono (by omega))) rfl
theorem parts_of{p S:Nat}{w1:World}(vs:List Value)(qs:List (List Nd))(hl:vs.length=qs.length)(h:∀i (h1:i<vs.length) (h2:i<qs.length),TR p S vs[i] qs[i] w1):
  Parts (w1.alloc (.cells vs.toArray 24)).heap.size (w1.alloc (.cells vs.toArray 24)) (some ⟨w1.heap.size,0,none⟩) qs:=by
 have hb:Below w1.heap.size w1 (w1.alloc (.cells vs.toArray 24)):=(Below.refl _ _).alloc (Nat.le_refl _) _
 refine .inr ⟨w1.heap.size,0,rfl,by simp,fun i hi=> ?_⟩
 have hv:i<vs.length:=by omega
 have ht:=h i hv hi
 obtain⟨ai,ci,e⟩:=ht.form
 rw[e]at ht
 refine⟨ai,ci, ?_,(ht.lies.keep hb (Nat.le_refl _)).up (by simp)⟩
 rw[cell_of_row _ w1.heap.size (0+i) _ _ _ (heap_alloc_new w1 _)]
 simp[hv,e]
end Go.Proofs.YtnoagleifffkcaaGreatDoor.draw

namespace Go.Proofs.YtnoagleifffkcaaGreatDoor.draw
open Lib (hid)
open Go.ChangeShapes Go.WideShapes Go.ChangeAt Go.RowKit
open nd
set_option linter.unusedVariables false
theorem leafT_eq(zs:List Int)(s:St):leafT zs s=leafG (exactG zs) s:=by
 have h2:=belowF_bd zs 2 (belowF zs 7 s).2 (by decide)
 have e:(exactG zs).bl 7 s=((belowF zs 7 s).1.toNat,(belowF zs 7 s).2):=rfl
 have e2:((exactG zs).bl 2 (belowF zs 7 s).2)=((belowF zs 2 (belowF zs 7 s).2).1.toNat,(belowF zs 2 (belowF zs 7 s).2).2):=rfl
 unfold leafT leafG
 rw[e]
 dsimp only
 generalize (belowF zs 7 s).1.toNat=b
 rcases b with _|_|_|b
 ·rfl
 ·rfl
 ·show(if(belowF zs 2 (belowF zs 7 s).2).1=0 then _ else _)=(if((exactG zs).bl 2 (belowF zs 7 s).2).1=0 then _ else _)
  rw[e2]
  dsimp only
  by_cases hc:(belowF zs 2 (belowF zs 7 s).2).1=0
  ·rw[if_pos hc,if_pos (by omega)];rfl
  ·rw[if_neg hc,if_neg (by omega)];rfl
 ·rfl
def ExprC(B p len cap:Nat)(a:Option Addr)(zs:List Int)(f:Nat)(D:Int)(E:St→List Nd×St):Prop:=
 ∀w s,In B w p a len cap zs s→Calls Tryz.prog f #[.pointer (some ⟨p,0,none⟩),.int .i64 D] w (TOut B p a len cap zs (E s).1 (E s).2 w)
theorem leaf_ok{B p len cap:Nat}{w:World}{a:Option Addr}{zs:List Int}{s:Nat×Int}(H:In B w p a len cap zs s):
  Calls Tryz.prog 127 #[.pointer (some ⟨p,0,none⟩)] w (TOut B p a len cap zs (leafG (exactG zs) s).1 (leafG (exactG zs) s).2 w):=by
 rw[←leafT_eq]
 exact leaf_any H
def Good(q:List Nd):Prop:=0<q.length∧q.length≤20000∧∀t∈q,t.kids.length≤1048576
theorem good_parts{n:Nd}{w2:World}{a2:Option Addr}{qs:List (List Nd)}{cap2:Nat}(hp:Parts w2.heap.size w2 a2 qs)(hg:∀q∈qs,Good q)(hl:qs.length≤5):
  Calls Tryz.prog 129 #[.agg #[.int .i64 n.k,.int .i64 n.op,.string n.s,.string n.t,.slice none 0 0],.slice a2 qs.length cap2] w2 (PgOut (makeT n qs) w2):=by
 refine make_any n qs a2 cap2 w2 hp (fun q hq=>(hg q hq).1) ?_ (by omega) (fun q hq=>(hg q hq).2.2)
 have key:∀l:List (List Nd),(∀q∈l,Good q)→sumL l≤l.length*20000:=by
  intro l
  induction l with
  |nil=>intro _;simp[sumL]
  |cons q l ih=>
   intro h
   have h1:=(h q (List.mem_cons_self ..)).2.1
   have h2:=ih (fun q hq=>h q (List.mem_cons_of_mem _ hq))
   simp only[sumL,List.length_cons]
   omega
 have:=key qs hg
 omega
set_option maxHeartbeats 1600000 in
theorem lval_ok{B p len cap:Nat}{w:World}{a:Option Addr}{zs:List Int}{s:Nat×Int}(D:Int)(E1 E2:St→List Nd×St)(hD: -100≤D∧D≤100)(h1:ExprC B p len cap a zs 83 (D-1) E1)(h2:ExprC B p len cap a zs 83 (D-2) E2)
  (g1:∀s,Good (E1 s).1) (g2:∀s,Good (E2 s).1) (H:In B w p a len cap zs s):
  Calls Tryz.prog 128 #[.pointer (some ⟨p,0,none⟩),.int .i64 D] w (TOut B p a len cap zs (lvalG (exactG zs) E1 E2 s).1 (lvalG (exactG zs) E1 E2 s).2 w):=by
 have HI:=hid H
 have H1:=hid h1
 have H2:=hid h2
 have j:=hid g1
 have y:=hid g2
 clear H h1 h2 g1 g2
 have hb:=belowF_bd zs 4 s (by omega)
 obtain⟨K,hK⟩:∃K:Nat,(belowF zs 4 s).1=K:=⟨(belowF zs 4 s).1.toNat,by omega⟩
 have HK:=hid hK
 have hE:(exactG zs).bl 4 s=(K,(belowF zs 4 s).2):=by
  show((belowF zs 4 s).1.toNat,(belowF zs 4 s).2)=_
  rw[hK,Int.toNat_natCast]
 rw[hK]at hb
 rcases(show K=0∨K=1∨K=2∨K=3 by omega)with rfl|rfl|rfl|rfl
 ·have HQ:=hid (show lvalG (exactG zs) E1 E2 s=(makeT (nodeS 5 (pickS l2WordL zs (belowF zs 4 s).2)) [(E1 (belowF zs 11 (belowF zs 4 s).2).2).1],(E1 (belowF zs 11 (belowF zs 4 s).2).2).2) by unfold lvalG;rw[hE];rfl)
  clear hK hE
  go_enter Tryz.func128,Tryz.ntmps128
  go_wp2_with fail
  refine(below_any 4 HI.out).mono ?_
  rintro e w1 ⟨he,I1,G1⟩
  rw[HK.out]at he
  subst he
  go_wp2_with fail
  refine(x_l2Word I1).mono ?_
  rintro e w2 ⟨⟨rfl,I2,G2⟩,Z2⟩
  go_wp2_with fail
  refine(H1.out _ _ I2).mono ?_
  rintro e w3 ⟨v3,rfl,T3,I3,G3⟩
  obtain⟨a3,c3,rfl⟩:=T3.form
  go_wp2_with fail
  refine(good_parts (n:=nodeS 5 (pickS l2WordL zs (belowF zs 4 s).2)) (parts_of [.slice a3 _ c3] [(E1 (belowF zs 11 (belowF zs 4 s).2).2).1] rfl (fun i h _=>by have e0:i=0:=(by simpa using h);subst e0;exact T3)) (by simpa using j.out _) (by simp)).mono ?_
  rintro e w4 hmk
  have HM:=hid (TOut.make I3 HI.lt (grown_trans (grown_trans G1 G2) G3) ((Below.refl _ _).alloc (Nat.le_refl _) _) hmk)
  obtain⟨v4,rfl,_⟩:=HM.out
  go_wp2
  go_ret
  rw[HQ.out]
  exact HM.out
 ·have HQ:=hid (show lvalG (exactG zs) E1 E2 s=(makeT (nodeO 6 0) [(E2 (belowF zs 4 s).2).1],(E2 (belowF zs 4 s).2).2) by unfold lvalG;rw[hE];rfl)
  clear hK hE
  go_enter Tryz.func128,Tryz.ntmps128
  go_wp2_with fail
  refine(below_any 4 HI.out).mono ?_
  rintro e w1 ⟨he,I1,G1⟩
  rw[HK.out]at he
  subst he
  go_wp2_with fail
  refine(H2.out _ _ I1).mono ?_
  rintro e w3 ⟨v3,rfl,T3,I3,G3⟩
  obtain⟨a3,c3,rfl⟩:=T3.form
  go_wp2_with fail
  refine(good_parts (n:=nodeO 6 0) (parts_of [.slice a3 _ c3] [(E2 (belowF zs 4 s).2).1] rfl (fun i h _=>by have e0:i=0:=(by simpa using h);subst e0;exact T3)) (by simpa using y.out _) (by simp)).mono ?_
  rintro e w4 hmk
  have HM:=hid (TOut.make I3 HI.lt (grown_trans G1 G3) ((Below.refl _ _).alloc (Nat.le_refl _) _) hmk)
  obtain⟨v4,rfl,_⟩:=HM.out
  go_wp2
  go_ret
  rw[HQ.out]
  exact HM.out
 ·have HQ:=hid (show lvalG (exactG zs) E1 E2 s=(leaf 1 (pickS l2WordL zs (belowF zs 4 s).2),(belowF zs 11 (belowF zs 4 s).2).2) by unfold lvalG;rw[hE];rfl)
  clear hK hE
  go_enter Tryz.func128,Tryz.ntmps128
  go_wp2_with fail
  refine(below_any 4 HI.out).mono ?_
  rintro e w1 ⟨he,I1,G1⟩
  rw[HK.out]at he
  subst he
  go_wp2_with fail
  refine(x_l2Word I1).mono ?_
  rintro e w2 ⟨⟨rfl,I2,G2⟩,Z2⟩
  go_wp2
  go_ret
  rw[HQ.out]
  exact TOut.leaf 1 _ I2 HI.lt (Nat.lt_of_le_of_lt G1.size Z2) (grown_trans G1 G2)
 ·have HQ:=hid (show lvalG (exactG zs) E1 E2 s=(leaf 1 (pickS l2WordL zs (belowF zs 4 s).2),(belowF zs 11 (belowF zs 4 s).2).2) by unfold lvalG;rw[hE];rfl)
  clear hK hE
  go_enter Tryz.func128,Tryz.ntmps128
  go_wp2_with fail
  refine(below_any 4 HI.out).mono ?_
  rintro e w1 ⟨he,I1,G1⟩
  rw[HK.out]at he
  subst he
  go_wp2_with fail
  refine(x_l2Word I1).mono ?_
  rintro e w2 ⟨⟨rfl,I2,G2⟩,Z2⟩
  go_wp2
  go_ret
  rw[HQ.out]
  exact TOut.leaf 1 _ I2 HI.lt (Nat.lt_of_le_of_lt G1.size Z2) (grown_trans G1 G2)
end Go.Proofs.YtnoagleifffkcaaGreatDoor.draw

namespace Go.Proofs.YtnoagleifffkcaaGreatDoor.draw
open nd
set_option linter.unusedVariables false
def Small(k:Nat)(q:List Nd):Prop:=0<q.length∧q.length≤k∧∀t∈q,t.kids.length≤1000
theorem Small.mono{a b:Nat}{q:List Nd}(h:Small a q)(hab:a≤b):Small b q:=⟨h.1,Nat.le_trans h.2.1 hab,h.2.2⟩
theorem Small.good{k:Nat}{q:List Nd}(h:Small k q)(hk:k≤20000):Good q:=⟨h.1,Nat.le_trans h.2.1 hk,fun t ht=>Nat.le_trans (h.2.2 t ht) (by decide)⟩
theorem go_kids:∀(ps:List (List Nd)) (out:List Nd) (ks:List Int),(∀q∈ps,∀t∈q,t.kids.length≤1000)→(∀t∈out,t.kids.length≤1000)→∀t∈(makeGo ps out ks).1,t.kids.length≤1000:=by
 intro ps
 induction ps with
 |nil=>intro out ks _ h;exact h
 |cons q ps ih=>
  intro out ks h1 h2
  refine ih _ _ (fun q' hq=>h1 q' (List.mem_cons_of_mem _ hq)) ?_
  intro t ht
  rcases List.mem_append.1 ht with ht|ht
  ·exact h2 t ht
  ·obtain⟨t',ht',rfl⟩:=List.mem_map.1 ht
   have:=h1 q (List.mem_cons_self ..) t' ht'
   simpa [shN,shK]using this
theorem sum_le{k:Nat}:∀ps:List (List Nd),(∀q∈ps,Small k q)→sumL ps≤ps.length*k:=by
 intro ps
 induction ps with
 |nil=>intro _;simp[sumL]
 |cons q ps ih=>
  intro h
  have h1:=(h q (List.mem_cons_self ..)).2.1
  have h2:=ih (fun q hq=>h q (List.mem_cons_of_mem _ hq))
  simp only[sumL,List.length_cons,Nat.succ_mul]
  omega
theorem small_make{k m:Nat}(n:Nd)(ps:List (List Nd))(h:∀q∈ps,Small k q)(hm:ps.length≤m)(hm2:m≤1000):Small (1+m*k) (makeT n ps):=by
 refine⟨by rw[makeT_len];omega, ?_, ?_⟩
 ·rw[makeT_len]
  have h1:=sum_le ps h
  have h2:=Nat.mul_le_mul_right k hm
  omega
 ·intro t ht
  unfold makeT at ht
  rcases List.mem_append.1 ht with ht|ht
  ·exact go_kids ps [] [] (fun q hq=>(h q hq).2.2) (fun t ht=>by cases ht) t ht
  ·rw[List.mem_singleton]at ht
   subst ht
   show(makeGo ps [] []).2.length≤1000
   rw[makeGo_klen]
   simp
   omega
def SmE(k:Nat)(E:St→List Nd×St):Prop:=∀s,Small k (E s).1
theorem sm0(n:Nd):Small 1 (makeT n []):=(small_make (k:=0) (m:=0) n [] (fun q hq=>(by cases hq)) (Nat.le_refl _) (by decide)).mono (by decide)
theorem sm1{k:Nat}(n:Nd){q:List Nd}(h:Small k q):Small (1+k) (makeT n [q]):=(small_make (k:=k) (m:=1) n [q] (fun r hr=>by rw[List.mem_singleton]at hr;rw[hr];exact h) (Nat.le_refl _) (by decide)).mono (by omega)
theorem sm_list{k m:Nat}(n:Nd){l:List (List Nd)}(h:(∀q∈l,Small k q)∧l.length≤m)(hm:m≤1000):Small (1+m*k) (makeT n l):=small_make n l h.1 h.2 hm
theorem sm_cons{k m:Nat}{q:List Nd}{l:List (List Nd)}(hq:Small k q)(h:(∀q∈l,Small k q)∧l.length≤m):(∀r∈q::l,Small k r)∧(q::l).length≤m+1:=by
 refine⟨fun r hr=> ?_, ?_⟩
 ·rcases List.mem_cons.1 hr with e|e
  ·rw[e];exact hq
  ·exact h.1 r e
 ·exact Nat.succ_le_succ h.2
theorem sm_nil{k:Nat}:(∀q∈([]:List (List Nd)),Small k q)∧([]:List (List Nd)).length≤0:=⟨fun q hq=>(by cases hq),Nat.le_refl _⟩
theorem exact_lt(zs:List Int)(n:Nat)(s:St)(hn:0<n):((exactG zs).bl n s).1<n:=by
 have h:=belowF_bd zs n s (by omega)
 show(belowF zs n s).1.toNat<n
 omega
theorem times_small{k:Nat}{E:St→List Nd×St}(h:SmE k E):∀n s,(∀q∈(timesG E n s).1,Small k q)∧(timesG E n s).1.length≤n:=by
 intro n
 induction n with
 |zero=>intro s;exact⟨fun q hq=>(by cases hq),Nat.le_refl _⟩
 |succ n ih=>intro s;exact sm_cons (h s) (ih _)
theorem list_small{k:Nat}(zs:List Int){E:St→List Nd×St}(h:SmE k E)(least most:Nat)(hl:least≤most)(s:St):(∀q∈(listG (exactG zs) E least most s).1,Small k q)∧(listG (exactG zs) E least most s).1.length≤most:=by
 have hb:=exact_lt zs (most-least+1) s (by omega)
 obtain⟨h1,h2⟩:=times_small h (least+((exactG zs).bl (most-least+1) s).1) ((exactG zs).bl (most-least+1) s).2
 exact⟨h1,Nat.le_trans h2 (by omega)⟩
theorem word_small(zs:List Int):SmE 1 (wordG (exactG zs)):=fun s=>sm0 _
theorem leaf_small(zs:List Int):SmE 1 (leafG (exactG zs)):=by
 intro s
 unfold leafG
 dsimp only
 generalize ((exactG zs).bl 7 s).1=b
 rcases b with _|_|_|b
 ·exact sm0 _
 ·exact sm0 _
 ·show Small 1 (if((exactG zs).bl 2 ((exactG zs).bl 7 s).2).1=0 then _ else _:List Nd×St).1
  split
  ·exact sm0 _
  ·exact sm0 _
 ·exact sm0 _
theorem lval_small{k:Nat}(zs:List Int){E1 E2:St→List Nd×St}(h1:SmE k E1)(h2:SmE k E2):SmE (1+k) (lvalG (exactG zs) E1 E2):=by
 intro s
 unfold lvalG
 dsimp only
 generalize ((exactG zs).bl 4 s).1=b
 rcases b with _|_|b
 ·exact sm1 _ (h1 _)
 ·exact sm1 _ (h2 _)
 ·exact(sm0 _).mono (by omega)
theorem step_small{k:Nat}(zs:List Int){E1 E2 E3:St→List Nd×St}(h1:SmE k E1)(h2:SmE k E2)(h3:SmE k E3):SmE (3+3*k) (stepG (exactG zs) E1 E2 E3):=by
 intro s
 unfold stepG
 dsimp only
 generalize ((exactG zs).bl 2 s).1=i
 generalize ((exactG zs).bl 16 ((exactG zs).bl 2 s).2).1=b
 rcases b with _|_|_|_|_|_|_|_|_|_|_|_|b
 ·exact(leaf_small zs _).mono (by omega)
 ·exact(lval_small zs h1 h2 _).mono (by omega)
 ·exact(sm1 _ (h1 _)).mono (by omega)
 ·exact(sm_list _ (list_small zs h1 0 3 (by omega) _) (by decide)).mono (by omega)
 ·exact(sm_list _ (list_small zs h2 0 3 (by omega) _) (by decide)).mono (by omega)
 ·exact(sm1 _ (lval_small zs h2 h3 _)).mono (by omega)
 ·exact(sm1 _ (lval_small zs h2 h3 _)).mono (by omega)
 ·exact(sm1 _ (h1 _)).mono (by omega)
 ·exact(sm1 _ (h1 _)).mono (by omega)
 ·exact(sm_list _ (list_small zs h1 1 2 (by omega) _) (by decide)).mono (by omega)
 ·exact(sm_list (m:=3) _ (sm_cons (h1 _) (sm_cons (h1 _) (sm_cons (h1 _) sm_nil))) (by decide)).mono (by omega)
 ·exact(sm_list (m:=2) _ (sm_cons (lval_small zs h2 h3 _) (sm_cons ((h1 _).mono (by omega)) sm_nil)) (by decide)).mono (by omega)
 ·exact(sm_list (m:=2) _ (sm_cons (h1 _) (sm_cons (h1 _) sm_nil)) (by decide)).mono (by omega)
def kZ:Nat→Nat
 |0=>1
 |d+1=>3+3*kZ d
theorem SmE.mono{a b:Nat}{E:St→List Nd×St}(h:SmE a E)(hab:a≤b):SmE b E:=fun s=>(h s).mono hab
theorem exprs_small(zs:List Int):∀d,SmE (kZ d) (exprs (exactG zs) d).1∧SmE (kZ d) (exprs (exactG zs) d).2.1∧SmE (kZ d) (exprs (exactG zs) d).2.2:=by
 intro d
 induction d with
 |zero=>exact⟨leaf_small zs,leaf_small zs,leaf_small zs⟩
 |succ d ih=>exact⟨step_small zs ih.1 ih.2.1 ih.2.2,ih.1.mono (by simp only[kZ];omega),ih.2.1.mono (by simp only[kZ];omega)⟩
end Go.Proofs.YtnoagleifffkcaaGreatDoor.draw

namespace Go.Proofs.YtnoagleifffkcaaGreatDoor.draw
open Lib (hid)
open Go.ChangeShapes Go.WideShapes Go.ChangeAt Go.RowKit
open nd
set_option linter.unusedVariables false
set_option maxRecDepth 20000
def TA(L g:Nat)(v:Value)(q:List Nd)(w:World):Prop:=
 ∃a c,v= .slice a q.length c∧∀w':World,w.heap.size≤w'.heap.size→(∀k,L≤k→k<w.heap.size→k≠g→w'.heap[k]? =w.heap[k]?)→Lies w'.heap.size w' a q
theorem TA.lies{L g n c:Nat}{a:Option Addr}{q:List Nd}{w:World}(h:TA L g (.slice a n c) q w):Lies w.heap.size w a q:=by
 obtain⟨a',c',e,h⟩:=h
 injection e with e _ _
 subst e
 exact h w (Nat.le_refl _) (fun _ _ _ _=>rfl)
theorem TA.step{L g g':Nat}{v:Value}{q:List Nd}{w w':World}(h:TA L g v q w)(hs:w.heap.size≤w'.heap.size)(hk:∀k,L≤k→k<w.heap.size→k≠g→w'.heap[k]? =w.heap[k]?)(hg:g=g'∨w.heap.size≤g'):TA L g' v q w':=by
 obtain⟨a,c,e,h⟩:=h
 refine⟨a,c,e,fun w2 y j=>h w2 (Nat.le_trans hs y) (fun k h1 h2 h3=> ?_)⟩
 rw[j k h1 (Nat.lt_of_lt_of_le h2 hs) (fun e=>by rcases hg with hg|hg<;>omega)]
 exact hk k h1 h2 h3
theorem TR.apart{p L g S:Nat}{v:Value}{q:List Nd}{w:World}(h:TR p S v q w)(hg:g<S)(hL:L≤S):TA L g v q w:=by
 obtain⟨a,c,e⟩:=h.form
 subst e
 refine⟨a,c,rfl,fun w' hs hk=> ?_⟩
 obtain⟨h0,z,r,hz,hp,hr⟩:=h
 have hp':PT S (.slice a q.length c) z r w':=by
  obtain⟨h1,h2,h3,h4,h5⟩:=hp
  refine⟨⟨h1.1,h1.2.elim .inl (fun⟨b,cap,cur,hv,hb,hblk,r⟩=> .inr ⟨b,cap,cur,hv,hb, ?_,r⟩)⟩,fun i hi=> ?_,h3,h4,fun i hi=>Nat.lt_of_lt_of_le (h5 i hi) hs⟩
  ·rw[hk b (by omega) (lt_of_heap hblk) (by omega)]
   exact hblk
  ·rcases h2 i hi with h2|⟨cap,e1,e2,e3⟩
   ·exact .inl h2
   ·exact .inr ⟨cap,e1,e2.of_block (hk (r i) (by omega) (h5 i hi) (by omega)),e3⟩
 rw[←hz]
 exact hp'.lies
theorem Tryz.infoNodes:(Tryz.prog.info? 24).map (fun i=>(i.zero,i.size,i.bytes))=some (some (.slice none 0 0),1,24):=by kernel_rfl
def OwnP(B:Nat)(v:Value)(vs:List Value)(w:World):Prop:=w.ownsRow B 24 1 v vs.length vs
theorem OwnP.lit{B:Nat}{w:World}(hB:B≤w.heap.size):OwnP B (.slice (some ⟨w.heap.size,0,none⟩) 0 0) [] (w.alloc (.cells #[] 24)):=
 World.ownsRow_lit w #[] 0 hB (by unfold maxLen;omega) rfl
theorem wpList_append_tree(w:World)(u:Value){ops:Array Oper}{rest:List Oper}{o:Oper}{a:Act}{Q:Exit→Act→World→Prop}(hgd:o.guard=none)(s x:Operand)
  (ho:o.op= .call {callee:= .builtin .append,args:= #[s,x],argTypes:= #[128,128]}) (B:Nat) (v:Value) (vs:List Value) (hs:a.eval s=v)
  (hown:OwnP B v vs w) (hx:a.eval x= .slice (some ⟨w.heap.size,0,none⟩) 1 1) (hu:u.oneCell'=true) (hn:vs.length≤1048576) (hB:B≤w.heap.size)
  (h:∀g cap w',OwnP B (.slice (some ⟨g,0,none⟩) (vs.length+1) cap) (vs++[u]) w'→w.grownBy w' v.ownBlock→(v.ownBlock=some g∨w.heap.size≤g)→wpList Tryz.prog ops Q rest (a.put o.dst (.slice (some ⟨g,0,none⟩) (vs.length+1) cap)) w'):
  wpList Tryz.prog ops Q (o::rest) a (w.alloc (.cells #[u] 24)):=by
 obtain⟨i0,hi,F,G,e⟩:=info_parts Tryz.infoNodes
 refine wpList_append_lies _ hgd s x 128 ho B 24 i0 _ 1 24 Tryz.underlying128 hi F G e rfl (by decide) v vs.length vs hs (hown.alloc _) ⟨w.heap.size,0,none⟩ 1 1 [u] hx rfl ?_ ?_ (by decide) (by unfold maxLen;omega) (by omega) (by simp;omega) (w.heap.size+1) (by simp) ?_
 ·intro j y hj
  rw[show((⟨w.heap.size,0,none⟩:Addr).add j)=⟨w.heap.size,j,none⟩ by unfold Addr.add;split<;>simp_all]
  rw[cell_of_row _ w.heap.size j _ _ _ (heap_alloc_new w _)]
  simpa using hj
 ·intro y hy
  simp at hy
  rcases hy with rfl
  exact hu
 ·intro g cap w' hown' hg hor _
  refine h g cap w' ?_ ?_ (hor.imp id (fun h=>by omega))
  ·unfold OwnP
   rw[List.length_append]
   exact hown'
  ·exact⟨hg.os,hg.tape,hg.output,by have:=hg.size;simp at this;omega,fun k hk hne=>by rw[hg.block k (by simp;omega) hne];exact Below.heap_alloc w _ k hk⟩
structure LS(B p len cap:Nat)(a:Option Addr)(zs:List Int)(L g c:Nat)(vs:List Value)(qs:List (List Nd))(s:St)(w:World):Prop where
 own:OwnP L (.slice (some ⟨g,0,none⟩) vs.length c) vs w
 ln:vs.length=qs.length
 tr:∀i (h1:i<vs.length) (h2:i<qs.length),TA L g vs[i] qs[i] w
 cur:In B w p a len cap zs s
 lw:L≤w.heap.size
 pw:p<L
section
variable {B p len cap L g c:Nat} {a:Option Addr} {zs:List Int} {W w w1:World} {vs:List Value} {qs:List (List Nd)} {s s1:St}
theorem LS.g_lt(h:LS B p len cap a zs L g c vs qs s w):L≤g∧g<w.heap.size:=World.ownsRow.lt h.own g rfl
theorem LS.start(H:In B w p a len cap zs s)(hL:L≤w.heap.size)(hp:p<L):LS B p len cap a zs L w.heap.size 0 [] [] s (w.alloc (.cells #[] 24)):=
 ⟨OwnP.lit hL,rfl,fun i h1 _=>by simp at h1,H.keep ((Below.refl w.heap.size w).alloc (Nat.le_refl _) _) H.lt,by simp;omega,hp⟩
theorem LS.next(h:LS B p len cap a zs L g c vs qs s w)(H:In B w1 p a len cap zs s1)(hg:w.grownBy w1 (some p)):LS B p len cap a zs L g c vs qs s1 w1:=by
 have hgl:=h.g_lt
 have hpw:=h.pw
 refine⟨World.ownsRow.kept h.own hg (.inr (by simp[Value.ownBlock];omega)),h.ln,fun i h1 h2=>(h.tr i h1 h2).step hg.size (fun k hk e _=>hg.block k e (by simp;omega)) (.inl rfl),H,Nat.le_trans h.lw hg.size,h.pw⟩
theorem LS.over(h:LS B p len cap a zs L g c vs qs s w)(hb:Below w.heap.size w w1):LS B p len cap a zs L g c vs qs s w1:=
 h.next (h.cur.keep hb h.cur.lt) (grown_below ⟨rfl,rfl,rfl,Nat.le_refl _,fun _ _ _=>rfl⟩ hb rfl)
theorem LS.set(h:LS B p len cap a zs L g c vs qs s w)(b j:Nat)(u:Value)(hb:b<L)(hp:p<b):LS B p len cap a zs L g c vs qs s (w.setCell ⟨b,j,none⟩ u):=by
 have hgl:=h.g_lt
 have hbl:Below b w (w.setCell ⟨b,j,none⟩ u):=(Below.refl b w).setCell (p:=⟨b,j,none⟩) (Nat.le_refl _) u
 have hgr:w.grownBy (w.setCell ⟨b,j,none⟩ u) (some b):=grown_one w b j u
 refine⟨World.ownsRow.kept h.own hgr (.inr (by simp[Value.ownBlock];omega)),h.ln,fun i h1 h2=>(h.tr i h1 h2).step hgr.size (fun k hk e _=>hgr.block k e (by simp;omega)) (.inl rfl),h.cur.keep hbl hp,Nat.le_trans h.lw hgr.size,h.pw⟩
theorem LS.push{S g' c':Nat}{u:Value}{q:List Nd}{w2:World}(h:LS B p len cap a zs L g c vs qs s w)(hu:TR p S u q w)(hS:g<S)(ho:OwnP L (.slice (some ⟨g',0,none⟩) (vs.length+1) c') (vs++[u]) w2)(hg:w.grownBy w2 (some g))(hor:g=g'∨w.heap.size≤g'):LS B p len cap a zs L g' c' (vs++[u]) (qs++[q]) s w2:=by
 have hgl:=h.g_lt
 have hpw:=h.pw
 have hst:∀{v:Value} {t:List Nd},TA L g v t w→TA L g' v t w2:=fun ht=>ht.step hg.size (fun k _ hk hne=>hg.block k hk (by simpa using hne)) hor
 refine⟨by rw[List.length_append];exact ho,by simp[h.ln],fun i h1 h2=> ?_,h.cur.keep (below_of hg hgl.1 h.lw) hpw,Nat.le_trans h.lw hg.size,h.pw⟩
 by_cases he:i<vs.length
 ·rw[List.getElem_append_left he,List.getElem_append_left (by rw[←h.ln];exact he)]
  exact hst (h.tr i he _)
 ·have e0:i=vs.length:=by simp at h1;omega
  subst e0
  have e1:(vs++[u])[vs.length]=u:=by simp
  have e2:(qs++[q])[vs.length]=q:=by simp[h.ln]
  rw[e1,e2]
  exact hst (hu.apart hS (by omega))
theorem LS.grown{w2:World}(h:LS B p len cap a zs L g c vs qs s w)(h0:W.grownBy w (some p))(hW:W.heap.size≤L)(hg:w.grownBy w2 (some g)):W.grownBy w2 (some p):=
 grown_below h0 (below_of hg (Nat.le_trans hW h.g_lt.1) h0.size) rfl
theorem LS.parts(h:LS B p len cap a zs L g c vs qs s w):Parts w.heap.size w (some ⟨g,0,none⟩) qs:=by
 refine .inr ⟨g,0,rfl,h.g_lt.2,fun i hi=> ?_⟩
 have hv:i<vs.length:=by rw[h.ln];exact hi
 have ht:=h.tr i hv hi
 obtain⟨ai,ci,e,_⟩:=id ht
 rw[e]at ht
 refine⟨ai,ci, ?_,ht.lies⟩
 rw[World.ownsRow.cellAt h.own (0+i) (by omega)]
 simp[hv,e]
end
def LOut(B p:Nat)(a:Option Addr)(len cap:Nat)(zs:List Int)(qs:List (List Nd))(s':St)(w:World)(e:Ending)(w':World):Prop:=
 ∃g c vs,e= .returned (.slice (some ⟨g,0,none⟩) qs.length c)∧LS B p len cap a zs w.heap.size g c vs qs s' w'∧w.grownBy w' (some p)
theorem times_snoc{σ T:Type}(E:σ→T×σ):∀n s,timesG E (n+1) s=((timesG E n s).1++[(E (timesG E n s).2).1],(E (timesG E n s).2).2):=by
 intro n
 induction n with
 |zero=>intro s;rfl
 |succ n ih=>
  intro s
  show((E s).1::(timesG E (n+1) (E s).2).1,(timesG E (n+1) (E s).2).2)=_
  rw[ih]
  rfl
theorem times_len{σ T:Type}(E:σ→T×σ):∀n s,(timesG E n s).1.length=n:=by
 intro n
 induction n with
 |zero=>intro s;rfl
 |succ n ih=>intro s;simp[timesG,ih]
def RelList(B p len cap:Nat)(a:Option Addr)(zs:List Int)(W:World)(E:St→List Nd×St)(N:Nat)(s:St)(v n:Value)(wr:World):Prop:=
 ∃(I g c:Nat) (vs:List Value),I≤N∧n= .int .i64 ((N:Int)-I)∧v= .slice (some ⟨g,0,none⟩) I c∧LS B p len cap a zs W.heap.size g c vs (timesG E I s).1 (timesG E I s).2 wr∧W.grownBy wr (some p)
set_option maxHeartbeats 1600000 in
theorem list_ok{B p len cap:Nat}{w:World}{a:Option Addr}{zs:List Int}{s:Nat×Int}(least most:Nat)(D:Int)(E:St→List Nd×St)(hlm:least≤most)(hm:most≤200)(h1:ExprC B p len cap a zs 83 D E)(H:In B w p a len cap zs s):
  Calls Tryz.prog 131 #[.pointer (some ⟨p,0,none⟩),.int .i64 least,.int .i64 most,.int .i64 D] w (LOut B p a len cap zs (listG (exactG zs) E least most s).1 (listG (exactG zs) E least most s).2 w):=by
 have HI:=hid H
 have H1:=hid h1
 clear H h1
 have hb:=belowF_bd zs ((most:Int)-least+1) s (by omega)
 obtain⟨K,hK⟩:∃K:Nat,(belowF zs ((most:Int)-least+1) s).1=K:=⟨(belowF zs ((most:Int)-least+1) s).1.toNat,by omega⟩
 obtain⟨t,ht⟩:∃t,t=(belowF zs ((most:Int)-least+1) s).2:=⟨_,rfl⟩
 have HK:=hid hK
 have HT:=hid ht
 rw[hK]at hb
 obtain⟨N,hN⟩:∃N:Nat,N=least+K:=⟨_,rfl⟩
 have HN:=hid hN
 have hNb:N≤200:=by omega
 have HQ:=hid (show listG (exactG zs) E least most s=timesG E N t by
  have e:(exactG zs).bl (most-least+1) s=(K,t):=by
   show((belowF zs ((most-least+1:Nat):Int) s).1.toNat,(belowF zs ((most-least+1:Nat):Int) s).2)=_
   rw[show((most-least+1:Nat):Int)=(most:Int)-least+1 by omega,hK,Int.toNat_natCast,←ht]
  unfold listG
  rw[e,hN])
 have HP:=HI.lt
 have X:((least:Int)+(K:Int))=(N:Int):=by omega
 clear hK ht hN
 go_enter Tryz.func131,Tryz.ntmps131
 have L0:=hid (LS.start HI.out (Nat.le_refl _) HP)
 have J:=hid (grown_below (p:=p) ⟨rfl,rfl,rfl,Nat.le_refl _,fun _ _ _=>rfl⟩ ((Below.refl w.heap.size w).alloc (Nat.le_refl _) (.cells #[] 24)) rfl)
 go_wp2_with fail
 refine(below_any _ L0.cur).mono ?_
 rintro e w1 ⟨he,I1,G1⟩
 rw[HK.out]at he
 subst he
 rw[←HT.out]at I1
 have L1:=hid (L0.next I1 G1)
 have P:=hid (grown_trans J.out G1)
 clear I1 G1
 go_wp2
 go_loopw [9,10] (fun v n wr=>RelList B p len cap a zs w E N t v n wr) (fun _ n _=>(intOf n).toNat)
 case atStart=>exact⟨0,w.heap.size,0,[],by omega,by rw[HN.out];simp,rfl,L1.out,P.out⟩
 case round=>
  obtain⟨I,g,c,vs,hI,rfl,rfl,hls,hgr⟩:=hrel
  have hvl:=hls.ln
  rw[times_len]at hvl
  subst hvl
  have HL:=hid hls
  have HG:=hid hgr
  clear hls hgr
  by_cases hlt:vs.length<N
  ·have hi:(vs.length:Int)<(N:Int):=by omega
   have O:0<(N:Int)-(vs.length:Int):=by omega
   go_wp2_with fail
   refine(H1.out _ _ HL.cur).mono ?_
   rintro e w2 ⟨u,rfl,T2,I2,G2⟩
   obtain⟨au,cu,rfl⟩:=T2.form
   have L2:=hid (HL.next I2 G2)
   have V:=hid T2
   have S:=hid (grown_trans HG.out G2)
   clear T2 I2 G2
   go_wp2_with (refine wpList_append_tree _ _ rfl _ _ rfl w.heap.size (.slice (some ⟨g,0,none⟩) vs.length c) vs rfl L2.own rfl rfl (by omega) L2.lw ?_;intro g3 c3 w3 F j G;have L3:=hid (L2.push V.out HL.g_lt.2 F j (G.imp (fun e=>by simpa [Value.ownBlock]using e) id));have y:=hid (L2.grown S.out (Nat.le_refl _) j))
   go_roundw
   case rel=>
    refine⟨vs.length+1,g3,c3,vs++[.slice au (E (timesG E vs.length t).2).1.length cu],by omega,by go_num,rfl, ?_⟩
    rw[times_snoc]
    exact⟨L3.out,y.out⟩
   case measure=>simp[intOf];omega
  ·obtain rfl:vs.length=N:=by omega
   have O:¬0<(vs.length:Int)-(vs.length:Int):=by omega
   go_wp2
   go_ret
   rw[HQ.out]
   exact⟨g,c,vs,by rw[times_len];rfl,HL.out,HG.out⟩
theorem pickInt_lit{B p len cap:Nat}{w:World}{a:Option Addr}{zs:List Int}{s:Nat×Int}(n:Nat)(L:List Int)(H:In B w p a len cap zs s)(hL:L.length=n)(hn:0<n)(hn2:n≤1000):
  Calls Tryz.prog 49 #[.pointer (some ⟨p,0,none⟩),.slice (some ⟨w.heap.size,0,none⟩) n n] (w.alloc (.cells (L.map (Value.int .i64)).toArray 3)) (fun e w'=>Out B p a len cap zs (.int .i64 (piG (exactG zs) L s).1) (piG (exactG zs) L s).2 w e w'∧w.heap.size<w'.heap.size):=by
 have hlt:=H.lt
 have e:piG (exactG zs) L s=(L.getD (belowF zs n s).1.toNat 0,(belowF zs n s).2):=by
  unfold piG
  rw[hL]
  rfl
 rw[e]
 refine(pickInt_any w.heap.size n L (H.keep ((Below.refl w.heap.size w).alloc (Nat.le_refl _) _) hlt) (heap_alloc_new w _) hL hn (by omega) hn2).mono ?_
 rintro e w' ⟨he,hI,hG⟩
 exact⟨⟨he,hI,grown_trans (grown_below ⟨rfl,rfl,rfl,Nat.le_refl _,fun _ _ _=>rfl⟩ ((Below.refl w.heap.size w).alloc (Nat.le_refl _) _) rfl) hG⟩,Nat.lt_of_lt_of_le (by simp) hG.size⟩
theorem binop_ok{B p len cap:Nat}{w:World}{a:Option Addr}{zs:List Int}{s:Nat×Int}(H:In B w p a len cap zs s):
  Calls Tryz.prog 132 #[.pointer (some ⟨p,0,none⟩)] w (fun e w'=>Out B p a len cap zs (.int .i64 (piG (exactG zs) l7BinL s).1) (piG (exactG zs) l7BinL s).2 w e w'∧w.heap.size<w'.heap.size):=by
 have HI:=hid H
 clear H
 go_enter Tryz.func132,Tryz.ntmps132
 go_wp2_with fail
 refine(pickInt_lit 21 l7BinL HI.out rfl (by decide) (by decide)).mono ?_
 rintro e w1 ⟨⟨rfl,I1,G1⟩,Z1⟩
 have j:=hid I1
 clear I1
 go_wp2
 go_ret
 exact⟨⟨rfl,j.out,G1⟩,Z1⟩
end Go.Proofs.YtnoagleifffkcaaGreatDoor.draw
