/-

-/
import Derived.Test.YtnoagleifffkcaaGreatDoorZoGRb
import Derived.Test.YtnoagleifffkcaaGreatDoorZoNest
namespace Go.Proofs.YtnoagleifffkcaaGreatDoor.rb
open Go.RowKit
open nd (Nd)
open tk (Tk)
open ps (Ps posOk top)
open lv (levelOf opLevel)
open rt (treeOk isExpr isLval)
open pe (ft)
open tksok (tokensOk okFrom)
open operand (ends)
open et (kp kd Good tok nam lst brack body un par full mis)
set_option linter.unusedVariables false
set_option linter.unusedSimpArgs false
set_option maxRecDepth 20000
def OkP(s:Bool)(T:List Tk):Prop:=(∀t∈T,t.s.size≤1048576)∧∀q:Int,¬q=7→¬q=2→(s=true∨ends q=false)→∃c:Int,¬c=7∧¬c=2∧ends c=true∧∀rest,okFrom q (T++rest)=okFrom c rest
theorem OkS.p{T:List Tk}(h:OkS true T)(s:Bool):OkP s T:=⟨h.1,fun q h7 h2 _=>by
 obtain⟨c,c7,c2,c3,c4⟩:=h.2 q h7 h2
 exact⟨c,c7,c2,c3 rfl,c4⟩⟩
theorem OkP.s{T:List Tk}(h:OkP true T):OkS true T:=⟨h.1,fun q h7 h2=>by
 obtain⟨c,c7,c2,c3,c4⟩:=h.2 q h7 h2 (.inl rfl)
 exact⟨c,c7,c2,fun _=>c3,c4⟩⟩
theorem OkP.weak{T:List Tk}{s:Bool}(h:OkP true T):OkP s T:=⟨h.1,fun q h7 h2 _=>h.2 q h7 h2 (.inl rfl)⟩
theorem OkP.app{s:Bool}{T U:List Tk}(h:OkP s T)(h':OkS true U):OkP s (T++U):=by
 refine⟨fun t ht=>(List.mem_append.1 ht).elim (h.1 t) (h'.1 t),fun q h7 h2 hq=> ?_⟩
 obtain⟨c,c7,c2,-,c4⟩:=h.2 q h7 h2 hq
 obtain⟨d,d7,d2,d3,d4⟩:=h'.2 c c7 c2
 exact⟨d,d7,d2,d3 rfl,fun rest=>by rw[List.append_assoc,c4,d4]⟩
theorem OkS.then{k:Int}(hk:symOk k=true)(he:ends k=false){s:Bool}{U:List Tk}(h':OkP s U):OkS true (tok k::U):=by
 have h:=OkS.sym hk
 refine⟨fun t ht=>(List.mem_cons.1 ht).elim (fun e=>h.1 t (by rw[e];exact List.mem_singleton.2 rfl)) (h'.1 t),fun q h7 h2=> ?_⟩
 unfold symOk at hk
 simp only[Bool.and_eq_true,decide_eq_true_eq,Bool.not_eq_true',Bool.or_eq_false_iff,beq_eq_false_iff_ne]at hk
 obtain⟨d,d7,d2,d3,d4⟩:=h'.2 k (by omega) (by omega) (.inr he)
 refine⟨d,d7,d2,fun _=>d3,fun rest=> ?_⟩
 have hf:tksok.follow q k=true:=by
  unfold tksok.follow
  rw[if_neg (fun e=>h7 e.1),if_neg (fun e=>h2 e.1),if_neg (by omega),if_neg (by omega)]
 show(tok.tokOk k (spell.spell k)&&(tksok.follow q k&&okFrom k (U++rest)))=_
 rw[sym_ok (by omega) (by omega),hf,d4]
 rfl
theorem OkP.bin{s s':Bool}{T U:List Tk}(h:OkP s T){k:Int}(ht:tok.tokOk k (spell.spell k)=true)(k7:¬k=7)(k2:¬k=2)(k5:¬k=5)(he:ends k=false)(h':OkP s' U):OkP s (T++(tok k::U)):=by
 refine⟨fun t ht=> ?_,fun q h7 h2 hq=> ?_⟩
 ·rcases List.mem_append.1 ht with e|e
  ·exact h.1 t e
  ·rcases List.mem_cons.1 e with rfl|e
   ·exact Nat.le_trans (spell_le k) (by decide)
   ·exact h'.1 t e
 ·obtain⟨c,c7,c2,c3,c4⟩:=h.2 q h7 h2 hq
  obtain⟨d,d7,d2,d3,d4⟩:=h'.2 k k7 k2 (.inr he)
  refine⟨d,d7,d2,d3,fun rest=> ?_⟩
  rw[List.append_assoc,c4]
  have hf:tksok.follow c k=true:=by
   unfold tksok.follow
   rw[if_neg (fun e=>c7 e.1),if_neg (fun e=>c2 e.1),if_neg k5]
   split
   ·exact c3
   ·rfl
  show(tok.tokOk k (spell.spell k)&&(tksok.follow c k&&okFrom k (U++rest)))=_
  rw[ht,hf,d4]
  rfl
theorem OkP.lst{E:Nat→Ps→List Tk}{n:Nd}(hE:∀j,j<n.kids.length→OkP false (E (kd n j) top)):∀J,J≤n.kids.length→(∀t∈et.lst E n J,t.s.size≤1048576)∧∀q:Int,¬q=7→¬q=2→ends q=false→∃c:Int,¬c=7∧¬c=2∧(J=0→c=q)∧∀rest,okFrom q (et.lst E n J++rest)=okFrom c rest:=by
 intro J
 induction J with
 |zero=>intro _;exact⟨fun t h=>by simp[et.lst]at h,fun q h7 h2 _=>⟨q,h7,h2,fun _=>rfl,fun rest=>rfl⟩⟩
 |succ J ih=>
  intro hJ
  obtain⟨i1,i2⟩:=ih (by omega)
  obtain⟨e1,e2⟩:=hE J (by omega)
  refine⟨fun t ht=> ?_,fun q h7 h2 he=> ?_⟩
  ·rcases List.mem_append.1 (show t∈(et.lst E n J++(if J=0 then[]else[tok 36]))++E (kd n J) top from ht)with e|e
   ·rcases List.mem_append.1 e with e|e
    ·exact i1 t e
    ·split at e
     ·simp at e
     ·simp at e;subst e;exact Nat.le_trans (spell_le 36) (by decide)
   ·exact e1 t e
  ·obtain⟨c,c7,c2,c3,c4⟩:=i2 q h7 h2 he
   by_cases h0:J=0
   ·have:=c3 h0
    subst this
    obtain⟨d,d7,d2,d3,d4⟩:=e2 c h7 h2 (.inr he)
    refine⟨d,d7,d2,fun h=>by omega,fun rest=> ?_⟩
    show okFrom c (((et.lst E n J++(if J=0 then[]else[tok 36]))++E (kd n J) top)++rest)=_
    rw[if_pos h0,List.append_nil,List.append_assoc,c4,d4]
   ·obtain⟨d,d7,d2,d3,d4⟩:=e2 36 (by decide) (by decide) (.inr (by decide))
    refine⟨d,d7,d2,fun h=>by omega,fun rest=> ?_⟩
    show okFrom q (((et.lst E n J++(if J=0 then[]else[tok 36]))++E (kd n J) top)++rest)=_
    rw[if_neg h0,List.append_assoc,List.append_assoc,c4]
    have hf:tksok.follow c 36=true:=by
     unfold tksok.follow
     rw[if_neg (fun e=>c7 e.1),if_neg (fun e=>c2 e.1)]
     rfl
    show(tok.tokOk 36 (spell.spell 36)&&(tksok.follow c 36&&okFrom 36 (E (kd n J) top++rest)))=_
    rw[sym_ok (k:=36) (by decide) (by decide),hf,d4]
    rfl
theorem OkS.brk{E:Nat→Ps→List Tk}{n:Nd}(hE:∀j,j<n.kids.length→OkP false (E (kd n j) top)){x y:Int}(hx:symOk x=true)(ex:ends x=false)(hy:symOk y=true)(ey:ends y=true):OkS true (et.brack E n x y):=by
 obtain⟨l1,l2⟩:=OkP.lst hE n.kids.length (Nat.le_refl _)
 have G:=hx
 have I:=hy
 unfold symOk at hx hy
 simp only[Bool.and_eq_true,decide_eq_true_eq,Bool.not_eq_true',Bool.or_eq_false_iff,beq_eq_false_iff_ne]at hx hy
 refine⟨fun t ht=> ?_,fun q h7 h2=> ?_⟩
 ·rcases List.mem_cons.1 (show t∈tok x::(et.lst E n n.kids.length++[tok y])from ht)with rfl|e
  ·exact Nat.le_trans (spell_le x) (by decide)
  ·rcases List.mem_append.1 e with e|e
   ·exact l1 t e
   ·simp at e;subst e;exact Nat.le_trans (spell_le y) (by decide)
 ·obtain⟨c,c7,c2,-,c4⟩:=l2 x (by omega) (by omega) ex
  refine⟨y,by omega,by omega,fun _=>ey,fun rest=> ?_⟩
  show okFrom q ((tok x::(et.lst E n n.kids.length++[tok y]))++rest)=_
  have hf:tksok.follow q x=true:=by
   unfold tksok.follow
   rw[if_neg (fun e=>h7 e.1),if_neg (fun e=>h2 e.1),if_neg (by omega),if_neg (by omega)]
  have F:tksok.follow c y=true:=by
   unfold tksok.follow
   rw[if_neg (fun e=>c7 e.1),if_neg (fun e=>c2 e.1),if_neg (by omega),if_neg (by omega)]
  show(tok.tokOk x (spell.spell x)&&(tksok.follow q x&&okFrom x ((et.lst E n n.kids.length++[tok y])++rest)))=_
  rw[sym_ok (by omega) (by omega),hf,List.append_assoc,c4]
  show(tok.tokOk y (spell.spell y)&&(tksok.follow c y&&okFrom y rest))=_
  rw[sym_ok (by omega) (by omega),F]
  rfl
theorem un_okp{l:List Nd}(ht:treeOk l=true)(hs:∀t∈l,t.s.size≤1048576):∀f i p,i<f→i<l.length→isExpr (l.getD i default).k=true→ft (l.getD i default).k (l.getD i default).op p=true→OkP p.s (un mis l f i p)∧(isLval (l.getD i default).k=true→OkS true (un mis l f i p)):=by
 intro f
 induction f with
 |zero=>intro i p h;omega
 |succ f ih=>
  intro i p hif hi hk hfp
  rw[et.un_succ]
  obtain⟨n,hn⟩:∃n,l.getD i default=n:=⟨_,rfl⟩
  have hns:n.s.size≤1048576:=by
   rw[et.getD_at hi]at hn
   rw[←hn]
   exact hs _ (List.getElem_mem hi)
  rw[hn]at hk hfp⊢
  have hp:=(ft_lev hfp).1
  have hG:=Good.at ht hi hn hk
  obtain⟨-,-,-,ho,htx,-⟩:=flds ht hi hn hk
  have hr:=et.expr_range hk
  have hkid:∀j,j<n.kids.length→kd n j<f∧kd n j<l.length∧isExpr (l.getD (kd n j) default).k=true:=fun j hj=>⟨by have:=(hG.kids j hj).1;omega,Nat.lt_trans (hG.kids j hj).1 hi,(hG.kids j hj).2.2⟩
  have hE:∀j,j<n.kids.length→∀q,posOk q.l q.d=true→OkP q.s (et.ex mis l f (kd n j) q):=by
   intro j hj q hq
   obtain⟨k1,k2,k3⟩:=hkid j hj
   unfold et.ex par
   by_cases hm:mis (l.getD (kd n j) default) q=true
   ·rw[if_pos hm]
    have h1:=(ih _ top k1 k2 k3 (ft_top k3 (et.level_some (Good.at ht k2 rfl k3)))).1
    have I:OkS true [tok 33]:=OkS.sym (k:=33) (by decide)
    exact(OkS.then (k:=32) (by decide) (by decide) (h1.app I)).p _
   ·rw[if_neg hm]
    refine(ih _ q k1 k2 k3 ?_).1
    unfold mis at hm
    unfold ft
    simpa using hm
  have hpos:Open n→∀K:Int,0≤K∧K<(n.kids.length:Int)→posOk (kp n K p).l (kp n K p).d=true:=fun hO K hK=>(kp_ok hO ho hp hK).1
  have hT:∀j,j<n.kids.length→OkP false (et.ex mis l f (kd n j) top):=fun j hj=>hE j hj top (by decide)
  have hK:Open n→∀K:Nat,K<n.kids.length→OkP (kp n K p).s (et.ex mis l f (kd n K) (kp n K p)):=fun hO K hj=>hE K hj _ (hpos hO K (by omega))
  have hL:Left n→¬n.k=10→¬n.k=15→0<n.kids.length→OkP p.s (et.ex mis l f (kd n 0) (kp n 0 p)):=fun hL J O hj=>by
   have h:=hE 0 hj (kp n 0 p) (hpos hL.open 0 (by omega))
   have e:(kp n 0 p).s=p.s:=by
    rw[kp_at hp ⟨by decide,by omega⟩ ho hL.open]
    show ps.nsI n.k n.op 0 p.s=p.s
    unfold ps.nsI
    unfold Left at hL
    rw[if_neg (by omega),if_neg (by omega)]
    rfl
   rw[e]at h
   exact h
  have hU:n.k=9∨n.k=10∨n.k=15→∀hj:0<n.kids.length,OkS true (un mis l f (kd n 0) (kp n 0 p)):=fun h hj=>by
   obtain⟨k1,k2,k3⟩:=hkid 0 hj
   have hv:=hG.lval h
   have hO:Open n:=by unfold Open;omega
   obtain⟨w1,w2,w3⟩:=kp_ok (K:=0) hO ho hp (by omega)
   exact(ih _ _ k1 k2 k3 (lval_ft hv w1 w2)).2 hv
  have k1:n.k=6∨n.k=9∨n.k=10∨n.k=11→0<n.kids.length:=fun h=>by rw[hG.one h];exact Nat.one_pos
  have nm:n.k=1∨n.k=5∨n.k=7∨n.k=13→spell.nameOk n.s=true:=fun h=>by
   unfold rt.textOk at htx
   rw[if_pos (by omega)]at htx
   exact htx
  have n6:n.k=1∨n.k=5∨n.k=7∨n.k=13→OkS true [nam 6 n.s]:=fun h=>OkS.one (k:=6) hns (by simp[tok.tokOk,nm h]) (by decide) (by decide) (by decide) (by decide)
  have both:∀{T:List Tk},OkS true T→OkP p.s T∧(isLval n.k=true→OkS true T):=fun h=>⟨h.p _,fun _=>h⟩
  have left:∀{T:List Tk},¬isLval n.k=true→OkP p.s T→OkP p.s T∧(isLval n.k=true→OkS true T):=fun hv h=>⟨h,fun h'=>absurd h' hv⟩
  have hcase:n.k=1∨n.k=2∨n.k=3∨n.k=4∨n.k=5∨n.k=6∨n.k=7∨n.k=8∨n.k=9∨n.k=10∨n.k=11∨n.k=12∨n.k=13∨n.k=14∨n.k=15:=by omega
  have lv:∀{K:Int},n.k=K→isLval K=false→¬isLval n.k=true:=fun h e h'=>by rw[h,e]at h';cases h'
  rcases hcase with h|h|h|h|h|h|h|h|h|h|h|h|h|h|h
  ·rw[et.body_1 h];exact both (n6 (.inl h))
  ·rw[et.body_2 h];exact both (OkS.one (k:=3) hns (by rw[h]at htx;simpa [rt.textOk]using htx) (by decide) (by decide) (by decide) (by decide))
  ·rw[et.body_3 h];exact both (OkS.one (k:=4) hns (by rw[h]at htx;simpa [rt.textOk]using htx) (by decide) (by decide) (by decide) (by decide))
  ·rw[et.body_4 h]
   have h5:tok.tokOk 5 n.s=true:=by rw[h]at htx;simpa [rt.textOk]using htx
   have hsf:p.s=false:=by
    have:=(ft_lev hfp).2.1
    cases hq:p.s
    ·rfl
    ·simp[ps.forb,hq,h]at this
   refine left (lv h (by decide)) ⟨fun t ht=>by simp at ht;subst ht;exact hns,fun q h7 h2 hq=>⟨5,by decide,by decide,by decide,fun rest=> ?_⟩⟩
   have he:ends q=false:=by
    rcases hq with e|e
    ·rw[hsf]at e;cases e
    ·exact e
   have hf:tksok.follow q 5=true:=by
    unfold tksok.follow
    rw[if_neg (fun e=>h7 e.1),if_neg (fun e=>h2 e.1),if_pos rfl,he]
    rfl
   show(tok.tokOk 5 n.s&&(tksok.follow q 5&&okFrom 5 rest))=_
   rw[h5,hf]
   rfl
  ·rw[et.body_5 h];exact both (OkS.app (n6 (by omega)) (OkS.brk hT (by decide) (by decide) (by decide) (by decide)))
  ·rw[et.body_6 h];exact both (OkS.then (k:=68) (by decide) (by decide) (hK (by unfold Open;omega) 0 (k1 (by omega))))
  ·rw[et.body_7 h]
   have hb:=OkS.brk (E:=et.ex mis l f) (n:=n) hT (x:=32) (y:=33) (by decide) (by decide) (by decide) (by decide)
   obtain⟨l1,l2⟩:=OkP.lst hT n.kids.length (Nat.le_refl _)
   refine both ⟨fun t ht=>(List.mem_cons.1 ht).elim (fun e=>by rw[e];exact hns) (hb.1 t),fun q h7 h2=> ?_⟩
   obtain⟨c,c7,c2,-,c4⟩:=l2 32 (by decide) (by decide) (by decide)
   refine⟨33,by decide,by decide,fun _=>by decide,fun rest=> ?_⟩
   have G:tksok.follow q 7=true:=by
    unfold tksok.follow
    rw[if_neg (fun e=>h7 e.1),if_neg (fun e=>h2 e.1)]
    rfl
   have hc:tksok.follow c 33=true:=by
    unfold tksok.follow
    rw[if_neg (fun e=>c7 e.1),if_neg (fun e=>c2 e.1)]
    rfl
   have F:tok.tokOk 7 n.s=true:=by simp[tok.tokOk,nm (by omega)]
   show(tok.tokOk 7 n.s&&(tksok.follow q 7&&(tok.tokOk 32 (spell.spell 32)&&(tksok.follow 7 32&&okFrom 32 ((et.lst (et.ex mis l f) n n.kids.length++[tok 33])++rest)))))=_
   rw[F,G,sym_ok (k:=32) (by decide) (by decide),show tksok.follow 7 32=true by decide,List.append_assoc,c4]
   show(tok.tokOk 33 (spell.spell 33)&&(tksok.follow c 33&&okFrom 33 rest))=_
   rw[sym_ok (k:=33) (by decide) (by decide),hc]
   rfl
  ·rw[et.body_8 h]
   have h8:OkS true [nam 8 n.s]:=OkS.one (k:=8) hns (by rw[h]at htx;simpa [rt.textOk,tok.tokOk]using htx) (by decide) (by decide) (by decide) (by decide)
   exact both (OkS.app h8 (OkS.brk hT (by decide) (by decide) (by decide) (by decide)))
  ·rw[et.body_9 h]
   have hop:n.op=51∨n.op=52:=by rw[h]at ho;simpa [rt.opOk]using ho
   have hsy:OkS (ends n.op) [tok n.op]:=OkS.sym (by rcases hop with e|e<;>rw[e]<;>decide)
   exact both (OkS.app hsy (hU (by omega) (k1 (by omega))))
  ·rw[et.body_10 h]
   have hop:n.op=51∨n.op=52:=by rw[h]at ho;simpa [rt.opOk]using ho
   have hsy:OkS true [tok n.op]:=by rcases hop with e|e<;>rw[e]<;>exact OkS.sym (by decide)
   exact both (OkS.app (hU (by omega) (k1 (by omega))) hsy)
  ·rw[et.body_11 h]
   have hop:n.op=55∨n.op=56∨n.op=61:=by rw[h]at ho;simpa [rt.opOk,or_assoc]using ho
   exact both (OkS.then (by rcases hop with e|e|e<;>rw[e]<;>decide) (by rcases hop with e|e|e<;>rw[e]<;>decide) (hK (by unfold Open;omega) 0 (k1 (by omega))))
  ·rw[et.body_12 h]
   have hlen:=hG.two (.inl h)
   have hO:Open n:=by unfold Open;omega
   have hb:rt.isBin n.op=true:=by rw[h]at ho;simpa [rt.opOk]using ho
   have hl:=hL (by unfold Left;omega) (by omega) (by omega) (by omega)
   have h1:=hK hO 1 (by omega)
   refine left (lv h (by decide)) ?_
   by_cases h99:n.op=99
   ·rw[if_pos h99]
    have e:(kp n ((1:Nat):Int) p).s=true:=by
     rw[kp_at hp ⟨by decide,by omega⟩ ho hO]
     show ps.nsI n.k n.op 1 p.s=true
     unfold ps.nsI
     rw[if_neg (by omega),if_pos ⟨h,rfl,h99⟩]
    rw[e]at h1
    exact hl.app h1.s
   ·rw[if_neg h99]
    obtain⟨t1,t2,t3,t4⟩:=op_tok (.inl hb) h99
    refine hl.bin t1 t2 t3 t4 ?_ h1
    simp only[rt.isBin,Bool.or_eq_true,beq_iff_eq]at hb
    simp[ends]
    omega
  ·rw[et.body_13 h]
   have hz:OkS true ([tok 24]++[nam 6 n.s]):=OkS.app (OkS.sym (k:=24) (by decide)) (n6 (by omega))
   refine left (lv h (by decide)) ?_
   by_cases hm:1<n.kids.length
   ·rw[if_pos hm]
    exact((OkS.brk hT (by decide) (by decide) (by decide) (by decide)).p _).app hz
   ·rw[if_neg hm]
    have:=hG.least (.inr h)
    exact(hL (by unfold Left;omega) (by omega) (by omega) (by omega)).app hz
  ·rw[et.body_14 h]
   have hlen:=hG.three h
   have hO:Open n:=by unfold Open;omega
   refine left (lv h (by decide)) ?_
   have h1:=OkS.then (k:=66) (by decide) (by decide) (hK hO 2 (by omega))
   have h2:=OkS.then (k:=65) (by decide) (by decide) ((hK hO 1 (by omega)).app h1)
   exact(hL (by unfold Left;omega) (by omega) (by omega) (by omega)).app h2
  ·rw[et.body_15 h]
   have hlen:=hG.two (.inr h)
   have hO:Open n:=by unfold Open;omega
   have hop:n.op=54∨(38≤n.op∧n.op≤43):=by
    rw[h]at ho
    simp[rt.opOk,chars.inR]at ho
    omega
   obtain⟨t1,t2,t3,t4⟩:=op_tok (op:=n.op) (by omega) (by omega)
   refine left (lv h (by decide)) ?_
   exact((hU (by omega) (by omega)).p _).bin t1 t2 t3 t4 (by simp[ends];omega) (hK hO 1 (by omega))
theorem etoks_ok{l:List Nd}(h:rt.exprOk l=true)(hs:∀t∈l,t.s.size≤1048576){p:Ps}(hp:posOk p.l p.d=true):tokensOk (tw.etoks l p)=true∧∀t∈tw.etoks l p,t.s.size≤1048576:=by
 obtain⟨ht,h0,hk⟩:=tw.expr_parts h
 have hif:l.length-1<l.length:=by omega
 have hE:tw.etoks l p=et.ex mis l l.length (l.length-1) p:=by unfold tw.etoks;rw[if_pos ⟨h,hp⟩]
 have hlen:=et.ex_len (enc:=mis) (p:=p) ht hif hif hk
 have hok:OkP p.s (et.ex mis l l.length (l.length-1) p):=by
  unfold et.ex par
  by_cases hm:mis (l.getD (l.length-1) default) p=true
  ·rw[if_pos hm]
   have h1:=(un_okp ht hs l.length (l.length-1) top hif hif hk (ft_top hk (et.level_some (Good.at ht hif rfl hk)))).1
   have e:OkS true [tok 33]:=OkS.sym (k:=33) (by decide)
   exact(OkS.then (k:=32) (by decide) (by decide) (h1.app e)).p _
  ·rw[if_neg hm]
   refine(un_okp ht hs l.length (l.length-1) p hif hif hk ?_).1
   unfold mis at hm
   unfold ft
   simpa using hm
 rw[hE]
 refine⟨?_,hok.1⟩
 unfold tokensOk
 rw[decide_eq_true (by omega)]
 obtain⟨c,c7,c2,c3,c4⟩:=hok.2 0 (by decide) (by decide) (.inr (by decide))
 have:=c4 []
 rw[List.append_nil]at this
 rw[this]
 show(true&&(c !=7))=true
 simp[c7]
end Go.Proofs.YtnoagleifffkcaaGreatDoor.rb

namespace Go.Proofs.YtnoagleifffkcaaGreatDoor.rb
open Go.RowKit
open nd (Nd)
open tk (Tk)
open ps (Ps posOk top)
open lv (levelOf opLevel)
open rt (treeOk isExpr isLval)
open pe (ft)
open pb (nestF nxt)
open et (kp kd Good tok nam un par mis)
set_option linter.unusedVariables false
set_option linter.unusedSimpArgs false
set_option maxRecDepth 20000
def Nst(T:List Tk)(N:Nat):Prop:=∀d rest i,d+N≤40→nestF (T++rest) d i=nestF rest d (i+T.length)
theorem Nst.nil(N:Nat):Nst [] N:=fun d rest i _=>rfl
theorem Nst.app{T U:List Tk}{N:Nat}(h:Nst T N)(h':Nst U N):Nst (T++U) N:=fun d rest i hd=>by
 rw[List.append_assoc,h d _ i hd,h' d rest _ hd,List.length_append,Nat.add_assoc]
theorem Nst.le{T:List Tk}{N M:Nat}(h:Nst T N)(hl:N≤M):Nst T M:=fun d rest i hd=>h d rest i (by omega)
theorem Nst.sym{t:Tk}(h1:pb.opB t.k=false)(h2:pb.clB t.k=false)(N:Nat):Nst [t] N:=fun d rest i hd=>by
 have e:nxt t.k d=d:=by unfold nxt;rw[h1,h2];rfl
 show(if 40<nxt t.k d then(i:Int)else nestF rest (nxt t.k d) (i+1))=_
 rw[e,if_neg (by omega)]
 rfl
theorem Nst.brk{x y:Int}(hx:pb.opB x=true)(hy:pb.opB y=false)(hy2:pb.clB y=true){T:List Tk}{N:Nat}(h:Nst T N):Nst (tok x::(T++[tok y])) (N+1):=fun d rest i hd=>by
 have e1:nxt x d=d+1:=by unfold nxt;rw[hx];rfl
 have e2:nxt y (d+1)=d:=by unfold nxt;rw[hy,hy2];rfl
 show(if 40<nxt x d then(i:Int)else nestF ((T++[tok y])++rest) (nxt x d) (i+1))=_
 rw[e1,if_neg (by omega),List.append_assoc,h (d+1) _ _ (by omega)]
 show(if 40<nxt y (d+1)then((i+1+T.length:Nat):Int)else nestF rest (nxt y (d+1)) (i+1+T.length+1))=_
 rw[e2,if_neg (by omega)]
 congr 1
 simp
 omega
theorem Nst.lst{E:Nat→Ps→List Tk}{n:Nd}{N:Nat}(hE:∀j,j<n.kids.length→Nst (E (kd n j) top) N):∀J,J≤n.kids.length→Nst (et.lst E n J) N:=by
 intro J
 induction J with
 |zero=>intro _;exact Nst.nil N
 |succ J ih=>
  intro hJ
  refine Nst.app (Nst.app (ih (by omega)) ?_) (hE J (by omega))
  show Nst (if J=0 then[]else[tok 36]) N
  split
  ·exact Nst.nil N
  ·exact Nst.sym (t:=tok 36) (by decide) (by decide) N
theorem un_nst{l:List Nd}(ht:treeOk l=true):∀f i p,i<f→i<l.length→isExpr (l.getD i default).k=true→posOk p.l p.d=true→Nst (un mis l f i p) (nd.dep l i):=by
 intro f
 induction f with
 |zero=>intro i p h;omega
 |succ f ih=>
  intro i p hif hi hk hp
  rw[et.un_succ]
  obtain⟨n,hn⟩:∃n,l.getD i default=n:=⟨_,rfl⟩
  rw[hn]at hk⊢
  have hG:=Good.at ht hi hn hk
  have hs:=(et.tree_parts ht).1
  obtain⟨-,-,-,ho,-⟩:=flds ht hi hn hk
  have hr:=et.expr_range hk
  have hkid:∀j,j<n.kids.length→kd n j<f∧kd n j<l.length∧isExpr (l.getD (kd n j) default).k=true:=fun j hj=>⟨by have:=(hG.kids j hj).1;omega,Nat.lt_trans (hG.kids j hj).1 hi,(hG.kids j hj).2.2⟩
  have hdep:∀j,j<n.kids.length→nd.dep l (kd n j)<nd.dep l i:=fun j hj=>by
   refine nd.dep_kid hs hi ?_
   rw[et.getD_at hi]at hn
   rw[hn,←(hG.kids j hj).2.1,List.getD_eq_getElem?_getD,List.getElem?_eq_getElem hj]
   exact List.getElem_mem hj
  obtain⟨D,hD⟩:∃D,nd.dep l i=D+1:=⟨_,nd.dep_at hi⟩
  rw[hD]at hdep⊢
  have hE:∀j,j<n.kids.length→∀q,posOk q.l q.d=true→Nst (et.ex mis l f (kd n j) q) (D+1):=by
   intro j hj q hq
   obtain⟨k1,k2,k3⟩:=hkid j hj
   have hd:=hdep j hj
   unfold et.ex par
   split
   ·exact(Nst.brk (x:=32) (y:=33) (by decide) (by decide) (by decide) ((ih _ top k1 k2 k3 (by decide)).le (show nd.dep l (kd n j)≤D by omega)))
   ·exact(ih _ q k1 k2 k3 hq).le (by omega)
  have hT:∀j,j<n.kids.length→Nst (et.ex mis l f (kd n j) top) D:=by
   intro j hj
   obtain⟨k1,k2,k3⟩:=hkid j hj
   have hd:=hdep j hj
   unfold et.ex par
   have hm:¬mis (l.getD (kd n j) default) top=true:=fun h=>by
    have:=ft_top (op:=(l.getD (kd n j) default).op) k3 (et.level_some (Good.at ht k2 rfl k3))
    unfold mis at h
    unfold ft at this
    rw[this]at h
    cases h
   rw[if_neg hm]
   exact(ih _ top k1 k2 k3 (by decide)).le (by omega)
  have hL:=Nst.lst hT n.kids.length (Nat.le_refl _)
  have hpos:Open n→∀K:Int,0≤K∧K<(n.kids.length:Int)→posOk (kp n K p).l (kp n K p).d=true:=fun hO K hK=>(kp_ok hO ho hp hK).1
  have hU:Open n→0<n.kids.length→Nst (un mis l f (kd n 0) (kp n 0 p)) (D+1):=fun hO hj=>by
   obtain⟨k1,k2,k3⟩:=hkid 0 hj
   have hd:=hdep 0 hj
   exact(ih _ _ k1 k2 k3 (hpos hO 0 (by omega))).le (by omega)
  have hK:Open n→∀K:Nat,K<n.kids.length→Nst (et.ex mis l f (kd n K) (kp n K p)) (D+1):=fun hO K hj=>hE K hj _ (hpos hO K (by omega))
  have k1:n.k=6∨n.k=9∨n.k=10∨n.k=11→0<n.kids.length:=fun h=>by rw[hG.one h];exact Nat.one_pos
  have so:¬n.op=32→¬n.op=33→¬n.op=34→¬n.op=35→¬n.op=30→¬n.op=31→Nst [tok n.op] (D+1):=fun a b c d e f=>Nst.sym (t:=tok n.op) (by show pb.opB n.op=false;unfold pb.opB;simp[a,b,c,d,e,f]) (by show pb.clB n.op=false;unfold pb.clB;simp[a,b,c,d,e,f]) _
  have hz:Nst ([tok 24]++[nam 6 n.s]) (D+1):=(Nst.sym (t:=tok 24) (by decide) (by decide) _).app (Nst.sym (t:=nam 6 n.s) (by rfl) (by rfl) _)
  have hcase:n.k=1∨n.k=2∨n.k=3∨n.k=4∨n.k=5∨n.k=6∨n.k=7∨n.k=8∨n.k=9∨n.k=10∨n.k=11∨n.k=12∨n.k=13∨n.k=14∨n.k=15:=by omega
  rcases hcase with h|h|h|h|h|h|h|h|h|h|h|h|h|h|h
  ·rw[et.body_1 h];exact Nst.sym (t:=nam 6 n.s) (by rfl) (by rfl) _
  ·rw[et.body_2 h];exact Nst.sym (t:=nam 3 n.s) (by rfl) (by rfl) _
  ·rw[et.body_3 h];exact Nst.sym (t:=nam 4 n.s) (by rfl) (by rfl) _
  ·rw[et.body_4 h];exact Nst.sym (t:=nam 5 n.s) (by rfl) (by rfl) _
  ·rw[et.body_5 h];exact Nst.app (T:=[nam 6 n.s]) (Nst.sym (t:=nam 6 n.s) (by rfl) (by rfl) _) (Nst.brk (x:=34) (y:=35) (by decide) (by decide) (by decide) hL)
  ·rw[et.body_6 h];exact Nst.app (T:=[tok 68]) (Nst.sym (t:=tok 68) (by decide) (by decide) _) (hK (by unfold Open;omega) 0 (k1 (by omega)))
  ·rw[et.body_7 h];exact Nst.app (T:=[nam 7 n.s]) (Nst.sym (t:=nam 7 n.s) (by rfl) (by rfl) _) (Nst.brk (x:=32) (y:=33) (by decide) (by decide) (by decide) hL)
  ·rw[et.body_8 h];exact Nst.app (T:=[nam 8 n.s]) (Nst.sym (t:=nam 8 n.s) (by rfl) (by rfl) _) (Nst.brk (x:=32) (y:=33) (by decide) (by decide) (by decide) hL)
  ·rw[et.body_9 h]
   have hop:n.op=51∨n.op=52:=by rw[h]at ho;simpa [rt.opOk]using ho
   exact Nst.app (T:=[tok n.op]) (so (by omega) (by omega) (by omega) (by omega) (by omega) (by omega)) (hU (by unfold Open;omega) (k1 (by omega)))
  ·rw[et.body_10 h]
   have hop:n.op=51∨n.op=52:=by rw[h]at ho;simpa [rt.opOk]using ho
   exact(hU (by unfold Open;omega) (k1 (by omega))).app (so (by omega) (by omega) (by omega) (by omega) (by omega) (by omega))
  ·rw[et.body_11 h]
   have hop:n.op=55∨n.op=56∨n.op=61:=by rw[h]at ho;simpa [rt.opOk,or_assoc]using ho
   exact Nst.app (T:=[tok n.op]) (so (by omega) (by omega) (by omega) (by omega) (by omega) (by omega)) (hK (by unfold Open;omega) 0 (k1 (by omega)))
  ·rw[et.body_12 h]
   have hlen:=hG.two (.inl h)
   have hO:Open n:=by unfold Open;omega
   have hb:rt.isBin n.op=true:=by rw[h]at ho;simpa [rt.opOk]using ho
   refine(hK hO 0 (by omega)).app (Nst.app ?_ (hK hO 1 (by omega)))
   split
   ·exact Nst.nil _
   ·simp only[rt.isBin,Bool.or_eq_true,beq_iff_eq]at hb
    exact so (by omega) (by omega) (by omega) (by omega) (by omega) (by omega)
  ·rw[et.body_13 h]
   split
   ·exact(Nst.brk (x:=32) (y:=33) (by decide) (by decide) (by decide) hL).app hz
   ·exact(hK (by have:=hG.least (.inr h);unfold Open;omega) 0 (by have:=hG.least (.inr h);omega)).app hz
  ·rw[et.body_14 h]
   have hlen:=hG.three h
   have hO:Open n:=by unfold Open;omega
   exact(hK hO 0 (by omega)).app (Nst.app (T:=[tok 65]) (Nst.sym (t:=tok 65) (by decide) (by decide) _) ((hK hO 1 (by omega)).app (Nst.app (T:=[tok 66]) (Nst.sym (t:=tok 66) (by decide) (by decide) _) (hK hO 2 (by omega)))))
  ·rw[et.body_15 h]
   have hlen:=hG.two (.inr h)
   have hO:Open n:=by unfold Open;omega
   have hop:n.op=54∨(38≤n.op∧n.op≤43):=by
    rw[h]at ho
    simp[rt.opOk,chars.inR]at ho
    omega
   exact(hU hO (by omega)).app (Nst.app (T:=[tok n.op]) (so (by omega) (by omega) (by omega) (by omega) (by omega) (by omega)) (hK hO 1 (by omega)))
theorem etoks_nest{l:List Nd}(h:rt.exprOk l=true){p:Ps}(hp:posOk p.l p.d=true)(hd:nd.depthF l≤39∨mis (l.getD (l.length-1) default) p=false):pb.nestOf (tw.etoks l p)= -1:=by
 obtain⟨ht,h0,hk⟩:=tw.expr_parts h
 have hif:l.length-1<l.length:=by omega
 have hE:tw.etoks l p=et.ex mis l l.length (l.length-1) p:=by unfold tw.etoks;rw[if_pos ⟨h,hp⟩]
 have G:nd.depthF l≤40:=by
  have ht':=ht
  unfold treeOk at ht'
  rw[Bool.and_eq_true,Bool.and_eq_true,decide_eq_true_eq]at ht'
  exact ht'.1.2
 have had:=nd.all_depth (et.tree_parts ht).1
 have hN:∃N,N≤40∧Nst (et.ex mis l l.length (l.length-1) p) N:=by
  unfold et.ex par
  by_cases hm:mis (l.getD (l.length-1) default) p=true
  ·rw[if_pos hm]
   have:nd.depthF l≤39:=hd.resolve_right (fun e=>by rw[e]at hm;cases hm)
   exact⟨_,by omega,Nst.brk (x:=32) (y:=33) (by decide) (by decide) (by decide) (un_nst ht _ _ top hif hif hk (by decide))⟩
  ·rw[if_neg hm]
   exact⟨_,by omega,un_nst ht _ _ p hif hif hk hp⟩
 obtain⟨N,F,j⟩:=hN
 rw[hE]
 have:=j 0 [] 0 (by omega)
 rw[List.append_nil]at this
 unfold pb.nestOf
 rw[this]
 rfl
end Go.Proofs.YtnoagleifffkcaaGreatDoor.rb
