/- A part of the proof; no condition of its own. -/
import Derived.Test.YtebjmdpkobhcbaaGreatDoorYGRb
import Derived.Test.YtebjmdpkobhcbaaGreatDoorYGWx
import Derived.Test.YtebjmdpkobhcbaaGreatDoorYGPi
import Derived.Test.YtebjmdpkobhcbaaGreatDoorYParens
namespace Go.Proofs.YtebjmdpkobhcbaaGreatDoor.rb
open Go.RowKit
open nd (Nd)
open tk (Tk)
open ps (Ps posOk top)
open lv (levelOf opLevel)
open rt (treeOk isExpr isLval)
open pe (ft)
open tksok (tokensOk okFrom)
open operand (ends)
open et (kp kd Good tok nam lst brack body un par full mis)
set_option linter.unusedVariables false
set_option linter.unusedSimpArgs false
set_option maxRecDepth 20000
theorem spell_le(n:Int):(spell.spell n).size≤16:=by
 unfold spell.spell
 split
 ·decide
 split
 ·next h=>
  obtain⟨k,hk,e⟩:∃k:Nat,k<17∧(n-10).toNat=k:=⟨(n-10).toNat,by omega,rfl⟩
  rw[e]
  have:∀k:Fin 17,(toks.words.getD k.1 ⟨#[]⟩).size≤16:=by decide
  exact this ⟨k,hk⟩
 split
 ·next h=>
  obtain⟨k,hk,e⟩:∃k:Nat,k<39∧(n-30).toNat=k:=⟨(n-30).toNat,by omega,rfl⟩
  rw[e]
  have:∀k:Fin 39,(toks.signs.getD k.1 ⟨#[]⟩).size≤16:=by decide
  exact this ⟨k,hk⟩
 ·decide
def OkS(E:Bool)(T:List Tk):Prop:=(∀t∈T,t.s.size≤1048576)∧∀q:Int,¬q=7→¬q=2→∃c:Int,¬c=7∧¬c=2∧(E=true→ends c=true)∧∀rest,okFrom q (T++rest)=okFrom c rest
theorem OkS.nil:OkS false []:=⟨fun t h=>by simp at h,fun q h7 h2=>⟨q,h7,h2,(fun h=>absurd h (by decide)),fun _=>rfl⟩⟩
theorem OkS.app{e e':Bool}{T U:List Tk}(h:OkS e' T)(h':OkS e U):OkS e (T++U):=by
 refine⟨fun t ht=>(List.mem_append.1 ht).elim (h.1 t) (h'.1 t),fun q h7 h2=> ?_⟩
 obtain⟨c,c7,c2,-,c4⟩:=h.2 q h7 h2
 obtain⟨d,d7,d2,d3,d4⟩:=h'.2 c c7 c2
 exact⟨d,d7,d2,d3,fun rest=>by rw[List.append_assoc,c4,d4]⟩
theorem OkS.weak{e:Bool}{T:List Tk}(h:OkS e T):OkS false T:=⟨h.1,fun q h7 h2=>by
 obtain⟨c,c7,c2,-,c4⟩:=h.2 q h7 h2
 exact⟨c,c7,c2,(fun h=>absurd h (by decide)),c4⟩⟩
theorem OkS.one{k:Int}{s:ByteArray}(hs:s.size≤1048576)(ht:tok.tokOk k s=true)(h7:¬k=7)(h2:¬k=2)(h5:¬k=5)(h58:¬(k=58∨k=41)):OkS (ends k) [⟨k,s,0⟩]:=by
 refine⟨fun t h=>by simp at h;subst h;exact hs,fun q q7 q2=>⟨k,h7,h2,fun h=>h,fun rest=> ?_⟩⟩
 show(tok.tokOk k s&&(tksok.follow q k&&okFrom k rest))=okFrom k rest
 have:tksok.follow q k=true:=by
  unfold tksok.follow
  rw[if_neg (fun e=>q7 e.1),if_neg (fun e=>q2 e.1),if_neg h5,if_neg h58]
 rw[ht,this]
 rfl
theorem sym_ok{k:Int}(h:9≤k)(h0:0<(spell.spell k).size):tok.tokOk k (spell.spell k)=true:=by
 unfold tok.tokOk
 rw[if_neg (by omega),if_neg (by omega),if_neg (by omega),if_neg (by omega),if_neg (by omega),if_neg (by omega),chars.ne_empty h0]
 simp
def symOk(k:Int):Bool:=decide (9≤k)&&decide (0<(spell.spell k).size)&& !(k==58||k==41)
theorem OkS.sym{k:Int}(h:symOk k=true):OkS (ends k) [tok k]:=by
 unfold symOk at h
 simp only[Bool.and_eq_true,decide_eq_true_eq,Bool.not_eq_true',Bool.or_eq_false_iff,beq_eq_false_iff_ne]at h
 exact OkS.one (Nat.le_trans (spell_le k) (by decide)) (sym_ok h.1.1 h.1.2) (by omega) (by omega) (by omega) (by omega)
theorem OkS.op{T:List Tk}(hT:OkS true T){k:Int}(ht:tok.tokOk k (spell.spell k)=true)(h7:¬k=7)(h2:¬k=2)(h5:¬k=5):OkS (ends k) (T++[tok k]):=by
 refine⟨fun t h=>(List.mem_append.1 h).elim (hT.1 t) (fun h=>by simp at h;subst h;exact Nat.le_trans (spell_le k) (by decide)),fun q q7 q2=> ?_⟩
 obtain⟨c,c7,c2,c3,c4⟩:=hT.2 q q7 q2
 refine⟨k,h7,h2,fun h=>h,fun rest=> ?_⟩
 rw[List.append_assoc,c4]
 show(tok.tokOk k (spell.spell k)&&(tksok.follow c k&&okFrom k rest))=okFrom k rest
 have:tksok.follow c k=true:=by
  unfold tksok.follow
  rw[if_neg (fun e=>c7 e.1),if_neg (fun e=>c2 e.1),if_neg h5]
  split
  ·exact c3 rfl
  ·rfl
 rw[ht,this]
 rfl
theorem OkS.fn{s:ByteArray}(hs:s.size≤1048576)(ht:spell.nameOk s=true){e:Bool}{T:List Tk}(h:OkS e T):OkS e (nam 7 s::tok 32::T):=by
 refine⟨fun t h'=> ?_,fun q q7 q2=> ?_⟩
 ·rcases List.mem_cons.1 h' with rfl|h'
  ·exact hs
  rcases List.mem_cons.1 h' with rfl|h'
  ·exact Nat.le_trans (spell_le 32) (by decide)
  ·exact h.1 t h'
 ·obtain⟨c,c7,c2,c3,c4⟩:=h.2 32 (by decide) (by decide)
  refine⟨c,c7,c2,c3,fun rest=> ?_⟩
  show(tok.tokOk 7 s&&(tksok.follow q 7&&(tok.tokOk 32 (spell.spell 32)&&(tksok.follow 7 32&&okFrom 32 (T++rest)))))=_
  have h1:tok.tokOk 7 s=true:=by simp[tok.tokOk,ht]
  have h3:tksok.follow q 7=true:=by
   unfold tksok.follow
   rw[if_neg (fun e=>q7 e.1),if_neg (fun e=>q2 e.1)]
   rfl
  have h4:tok.tokOk 32 (spell.spell 32)=true:=sym_ok (by decide) (by decide)
  have h5:tksok.follow 7 32=true:=by decide
  rw[h1,h3,h4,h5,c4]
  rfl
theorem OkS.ere{s:ByteArray}(hs:s.size≤1048576)(ht:tok.tokOk 5 s=true):OkS true (tok 32::([nam 5 s]++[tok 33])):=by
 refine⟨fun t h'=> ?_,fun q q7 q2=>⟨33,by decide,by decide,fun _=>by decide,fun rest=> ?_⟩⟩
 ·simp at h'
  rcases h' with rfl|rfl|rfl
  ·exact Nat.le_trans (spell_le 32) (by decide)
  ·exact hs
  ·exact Nat.le_trans (spell_le 33) (by decide)
 ·show(tok.tokOk 32 (spell.spell 32)&&(tksok.follow q 32&&(tok.tokOk 5 s&&(tksok.follow 32 5&&(tok.tokOk 33 (spell.spell 33)&&(tksok.follow 5 33&&okFrom 33 rest))))))=_
  have h3:tksok.follow q 32=true:=by
   unfold tksok.follow
   rw[if_neg (fun e=>by omega),if_neg (fun e=>q2 e.1)]
   rfl
  rw[sym_ok (k:=32) (by decide) (by decide),h3,ht,show tksok.follow 32 5=true by decide,sym_ok (k:=33) (by decide) (by decide),show tksok.follow 5 33=true by decide]
  rfl
theorem OkS.lst{E:Nat→Ps→List Tk}{n:Nd}(hE:∀j,j<n.kids.length→OkS true (E (kd n j) top)):∀J,J≤n.kids.length→OkS false (lst E n J):=by
 intro J
 induction J with
 |zero=>intro _;exact OkS.nil
 |succ J ih=>
  intro hJ
  refine OkS.app (e':=false) (OkS.app (ih (by omega)) ?_) (hE J (by omega)).weak
  show OkS false (if J=0 then[]else[tok 36])
  split
  ·exact OkS.nil
  ·exact(OkS.sym (by decide)).weak
theorem OkS.brack{E:Nat→Ps→List Tk}{n:Nd}(hE:∀j,j<n.kids.length→OkS true (E (kd n j) top)){x y:Int}(hx:symOk x=true)(hy:symOk y=true)(hy2:ends y=true):OkS true (brack E n x y):=by
 show OkS true ([tok x]++(et.lst E n n.kids.length++[tok y]))
 have:=OkS.sym hy
 rw[hy2]at this
 exact(OkS.sym hx).app ((OkS.lst hE _ (Nat.le_refl _)).app this)
theorem op_tok{op:Int}(h:rt.isBin op=true∨op=51∨op=52∨op=55∨op=56∨op=61∨op=54∨(38≤op∧op≤43))(h99:¬op=99):tok.tokOk op (spell.spell op)=true∧¬op=7∧¬op=2∧¬op=5:=by
 have hc:op=60∨op=57∨op=58∨op=59∨op=55∨op=56∨op=63∨op=48∨op=47∨op=50∨op=62∨op=49∨op=67∨op=46∨op=45∨op=44∨op=51∨op=52∨op=61∨op=54∨op=38∨op=39∨op=40∨op=41∨op=42∨op=43:=by
  rcases h with h|h
  ·simp only[rt.isBin,Bool.or_eq_true,beq_iff_eq]at h
   omega
  ·omega
 rcases hc with e|e|e|e|e|e|e|e|e|e|e|e|e|e|e|e|e|e|e|e|e|e|e|e|e|e<;>subst e<;>exact⟨sym_ok (by decide) (by decide),by decide,by decide,by decide⟩
theorem full4{n:Nd}{q:Ps}(h:n.k=4):full n q=true:=by unfold full;rw[h];simp
theorem uok{l:List Nd}(ht:treeOk l=true)(hs:∀t∈l,t.s.size≤1048576):∀f i p,i<f→i<l.length→isExpr (l.getD i default).k=true→((l.getD i default).k=4→∃s,s.size≤1048576∧tok.tokOk 5 s=true∧un full l f i p=[nam 5 s])∧(¬(l.getD i default).k=4→OkS true (un full l f i p)):=by
 intro f
 induction f with
 |zero=>intro i p h;omega
 |succ f ih=>
  intro i p hif hi hk
  rw[et.un_succ]
  obtain⟨n,hn⟩:∃n,l.getD i default=n:=⟨_,rfl⟩
  have hns:n.s.size≤1048576:=by
   rw[et.getD_at hi]at hn
   rw[←hn]
   exact hs _ (List.getElem_mem hi)
  rw[hn]at hk⊢
  have hG:=Good.at ht hi hn hk
  obtain⟨-,-,-,ho,htx,-⟩:=flds ht hi hn hk
  have hr:=et.expr_range hk
  have hkid:∀j,j<n.kids.length→kd n j<f∧kd n j<l.length∧isExpr (l.getD (kd n j) default).k=true:=fun j hj=>⟨by have:=(hG.kids j hj).1;omega,Nat.lt_trans (hG.kids j hj).1 hi,(hG.kids j hj).2.2⟩
  have hE:∀j,j<n.kids.length→∀q,OkS true (et.ex full l f (kd n j) q):=by
   intro j hj q
   obtain⟨k1,k2,k3⟩:=hkid j hj
   unfold et.ex par
   by_cases h4:(l.getD (kd n j) default).k=4
   ·obtain⟨s,s1,s2,s3⟩:=(ih _ top k1 k2 k3).1 h4
    rw[if_pos (full4 h4),s3]
    exact OkS.ere s1 s2
   ·split
    ·have y:OkS true [tok 33]:=OkS.sym (k:=33) (by decide)
     exact OkS.app (OkS.sym (k:=32) (by decide)) (OkS.app ((ih _ top k1 k2 k3).2 h4) y)
    ·exact(ih _ q k1 k2 k3).2 h4
  have hT:∀j,j<n.kids.length→OkS true (et.ex full l f (kd n j) top):=fun j hj=>hE j hj top
  have hU:n.k=9∨n.k=10∨n.k=15→∀hj:0<n.kids.length,∀q,OkS true (un full l f (kd n 0) q):=fun h hj q=>by
   obtain⟨k1,k2,k3⟩:=hkid 0 hj
   refine(ih _ q k1 k2 k3).2 (fun e=> ?_)
   have:=hG.lval h
   rw[e]at this
   exact absurd this (by decide)
  have hcase:n.k=1∨n.k=2∨n.k=3∨n.k=4∨n.k=5∨n.k=6∨n.k=7∨n.k=8∨n.k=9∨n.k=10∨n.k=11∨n.k=12∨n.k=13∨n.k=14∨n.k=15:=by omega
  have h1:n.k=6∨n.k=9∨n.k=10∨n.k=11→0<n.kids.length:=fun h=>by rw[hG.one h];exact Nat.one_pos
  have nm:n.k=1∨n.k=5∨n.k=7∨n.k=13→spell.nameOk n.s=true:=fun h=>by
   unfold rt.textOk at htx
   rw[if_pos (by omega)]at htx
   exact htx
  have n6:n.k=1∨n.k=5∨n.k=7∨n.k=13→OkS true [nam 6 n.s]:=fun h=>OkS.one (k:=6) hns (by simp[tok.tokOk,nm h]) (by decide) (by decide) (by decide) (by decide)
  rcases hcase with h|h|h|h|h|h|h|h|h|h|h|h|h|h|h
  ·rw[et.body_1 h];exact⟨fun e=>by omega,fun _=>n6 (.inl h)⟩
  ·rw[et.body_2 h];exact⟨fun e=>by omega,fun _=>OkS.one (k:=3) hns (by rw[h]at htx;simpa [rt.textOk]using htx) (by decide) (by decide) (by decide) (by decide)⟩
  ·rw[et.body_3 h];exact⟨fun e=>by omega,fun _=>OkS.one (k:=4) hns (by rw[h]at htx;simpa [rt.textOk]using htx) (by decide) (by decide) (by decide) (by decide)⟩
  ·rw[et.body_4 h];exact⟨fun e=>⟨n.s,hns,by rw[h]at htx;simpa [rt.textOk]using htx,rfl⟩,fun e=>absurd h e⟩
  ·rw[et.body_5 h];exact⟨fun e=>by omega,fun _=>OkS.app (n6 (by omega)) (OkS.brack hT (by decide) (by decide) (by decide))⟩
  ·rw[et.body_6 h];exact⟨fun e=>by omega,fun _=>OkS.app (OkS.sym (k:=68) (by decide)) (hE 0 (h1 (by omega)) _)⟩
  ·rw[et.body_7 h]
   have y:OkS true [tok 33]:=OkS.sym (k:=33) (by decide)
   exact⟨fun e=>by omega,fun _=>OkS.fn hns (nm (by omega)) ((OkS.lst hT _ (Nat.le_refl _)).app y)⟩
  ·rw[et.body_8 h]
   have h8:OkS true [nam 8 n.s]:=OkS.one (k:=8) hns (by rw[h]at htx;simpa [rt.textOk,tok.tokOk]using htx) (by decide) (by decide) (by decide) (by decide)
   exact⟨fun e=>by omega,fun _=>OkS.app h8 (OkS.brack hT (by decide) (by decide) (by decide))⟩
  ·rw[et.body_9 h]
   have hop:n.op=51∨n.op=52:=by rw[h]at ho;simpa [rt.opOk]using ho
   have hsy:OkS (ends n.op) [tok n.op]:=OkS.sym (by rcases hop with e|e<;>rw[e]<;>decide)
   exact⟨fun e=>by omega,fun _=>OkS.app hsy (hU (by omega) (h1 (by omega)) _)⟩
  ·rw[et.body_10 h]
   have hop:n.op=51∨n.op=52:=by rw[h]at ho;simpa [rt.opOk]using ho
   have hsy:OkS true [tok n.op]:=by rcases hop with e|e<;>rw[e]<;>exact OkS.sym (by decide)
   exact⟨fun e=>by omega,fun _=>OkS.app (hU (by omega) (h1 (by omega)) _) hsy⟩
  ·rw[et.body_11 h]
   have hop:n.op=55∨n.op=56∨n.op=61:=by rw[h]at ho;simpa [rt.opOk,or_assoc]using ho
   have hsy:OkS (ends n.op) [tok n.op]:=OkS.sym (by rcases hop with e|e|e<;>rw[e]<;>decide)
   exact⟨fun e=>by omega,fun _=>OkS.app hsy (hE 0 (h1 (by omega)) _)⟩
  ·rw[et.body_12 h]
   have hlen:=hG.two (.inl h)
   have hb:rt.isBin n.op=true:=by rw[h]at ho;simpa [rt.opOk]using ho
   refine⟨fun e=>by omega,fun _=> ?_⟩
   by_cases h99:n.op=99
   ·rw[if_pos h99]
    exact OkS.app (hE 0 (by omega) _) (hE 1 (by omega) _)
   ·rw[if_neg h99,←List.append_assoc]
    obtain⟨t1,t2,t3,t4⟩:=op_tok (.inl hb) h99
    exact OkS.app (OkS.op (hE 0 (by omega) _) t1 t2 t3 t4) (hE 1 (by omega) _)
  ·rw[et.body_13 h]
   refine⟨fun e=>by omega,fun _=> ?_⟩
   have hz:OkS true ([tok 24]++[nam 6 n.s]):=OkS.app (OkS.sym (k:=24) (by decide)) (n6 (by omega))
   split
   ·exact OkS.app (OkS.brack hT (by decide) (by decide) (by decide)) hz
   ·exact OkS.app (hE 0 (by have:=hG.least (.inr h);omega) _) hz
  ·rw[et.body_14 h]
   have hlen:=hG.three h
   exact⟨fun e=>by omega,fun _=>OkS.app (hE 0 (by omega) _) (OkS.app (OkS.sym (k:=65) (by decide)) (OkS.app (hE 1 (by omega) _) (OkS.app (OkS.sym (k:=66) (by decide)) (hE 2 (by omega) _))))⟩
  ·rw[et.body_15 h]
   have hlen:=hG.two (.inr h)
   have hop:n.op=54∨(38≤n.op∧n.op≤43):=by
    rw[h]at ho
    simp[rt.opOk,chars.inR]at ho
    omega
   obtain⟨t1,t2,t3,t4⟩:=op_tok (op:=n.op) (by omega) (by omega)
   refine⟨fun e=>by omega,fun _=> ?_⟩
   have:=OkS.app (OkS.op (hU (by omega) (by omega) (kp n 0 p)) t1 t2 t3 t4) (hE 1 (by omega) (kp n 1 p))
   rw[List.append_assoc]at this
   exact this
theorem exok{l:List Nd}(ht:treeOk l=true)(hs:∀t∈l,t.s.size≤1048576){f i:Nat}(p:Ps)(hif:i<f)(hi:i<l.length)(hk:isExpr (l.getD i default).k=true):OkS true (et.ex full l f i p):=by
 unfold et.ex par
 by_cases h4:(l.getD i default).k=4
 ·obtain⟨s,s1,s2,s3⟩:=(uok ht hs f i top hif hi hk).1 h4
  rw[if_pos (full4 h4),s3]
  exact OkS.ere s1 s2
 ·split
  ·have h:OkS true [tok 33]:=OkS.sym (k:=33) (by decide)
   exact OkS.app (OkS.sym (k:=32) (by decide)) (OkS.app ((uok ht hs f i top hif hi hk).2 h4) h)
  ·exact(uok ht hs f i p hif hi hk).2 h4
def cnt:Int→List Tk→Nat
 |_,[]=>0
 |q,t::T=>pb.one t.k q+cnt t.k T
theorem pc_cnt:∀(T A:List Tk),pb.pc (A++T) (A.length+T.length)=pb.pc (A++T) A.length+cnt (pb.pk (A++T) A.length) T:=by
 intro T
 induction T with
 |nil=>intro A;rfl
 |cons t T ih=>
  intro A
  have h1:=ih (A++[t])
  have e:(A++[t])++T=A++t::T:=by simp
  have hl:A.length<(A++t::T).length:=by simp
  have ha:(A++t::T)[A.length]=t:=by simp
  rw[e,List.length_append,List.length_singleton]at h1
  rw[List.length_cons,show A.length+(T.length+1)=A.length+1+T.length by omega,h1,pb.pc_step hl,pb.pk_next hl,ha]
  show _=_+(pb.one t.k _+cnt t.k T)
  omega
theorem pc_all(T:List Tk):pb.pc T T.length=cnt 0 T:=by
 have:=pc_cnt T []
 simpa [pb.pc,pb.pk]using this
def Cn(T:List Tk)(N:Nat):Prop:=∀q:Int,¬q=7→¬q=8→∃c:Int,¬c=7∧¬c=8∧∀rest,cnt q (T++rest)=N+cnt c rest
theorem Cn.nil:Cn [] 0:=fun q h7 h8=>⟨q,h7,h8,fun _=>by simp⟩
theorem Cn.app{T U:List Tk}{N M:Nat}(h:Cn T N)(h':Cn U M):Cn (T++U) (N+M):=by
 intro q h7 h8
 obtain⟨c,c7,c8,c4⟩:=h q h7 h8
 obtain⟨d,d7,d8,d4⟩:=h' c c7 c8
 exact⟨d,d7,d8,fun rest=>by rw[List.append_assoc,c4,d4];omega⟩
theorem Cn.sym{t:Tk}(h:¬t.k=32)(h7:¬t.k=7)(h8:¬t.k=8):Cn [t] 0:=fun q _ _=>⟨t.k,h7,h8,fun rest=>by
 show pb.one t.k q+cnt t.k rest=_
 rw[pb.one_no h]⟩
theorem Cn.paren:Cn [tok 32] 1:=fun q h7 h8=>⟨32,by decide,by decide,fun rest=>by
 show pb.one 32 q+cnt 32 rest=_
 rw[pb.one_yes h7 h8]⟩
theorem Cn.fn{t:Tk}(h:t.k=7∨t.k=8){T:List Tk}{N:Nat}(hT:Cn T N):Cn (t::tok 32::T) N:=by
 intro q _ _
 obtain⟨c,c7,c8,c4⟩:=hT 32 (by decide) (by decide)
 refine⟨c,c7,c8,fun rest=> ?_⟩
 show pb.one t.k q+(pb.one 32 t.k+cnt 32 (T++rest))=_
 rw[c4,pb.one_no (by omega)]
 rcases h with h|h<;>rw[h]
 ·rw[pb.one_f];omega
 ·rw[pb.one_b];omega
def Le(T U:List Tk):Prop:=∃N M,Cn T N∧Cn U M∧N≤M
theorem Le.app{T U T' U':List Tk}(h:Le T U)(h':Le T' U'):Le (T++T') (U++U'):=by
 obtain⟨N,M,a,b,c⟩:=h
 obtain⟨N',M',a',b',c'⟩:=h'
 exact⟨_,_,a.app a',b.app b',by omega⟩
theorem Le.same{T:List Tk}{N:Nat}(h:Cn T N):Le T T:=⟨N,N,h,h,Nat.le_refl _⟩
theorem Le.sym{t:Tk}(h:¬t.k=32)(h7:¬t.k=7)(h8:¬t.k=8):Le [t] [t]:=Le.same (Cn.sym h h7 h8)
theorem Le.nam{k:Int}{s:ByteArray}(h:¬k=32)(h7:¬k=7)(h8:¬k=8):Le [et.nam k s] [et.nam k s]:=Le.sym (t:=et.nam k s) h h7 h8
theorem Le.fn{t:Tk}(h:t.k=7∨t.k=8){T U:List Tk}(hT:Le T U):Le (t::tok 32::T) (t::tok 32::U):=by
 obtain⟨N,M,a,b,c⟩:=hT
 exact⟨N,M,Cn.fn h a,Cn.fn h b,c⟩
theorem Le.both{T U:List Tk}(h:Le T U):Le (tok 32::(T++[tok 33])) (tok 32::(U++[tok 33])):=
 Le.app (T:=[tok 32]) (U:=[tok 32]) (Le.same Cn.paren) (Le.app h (Le.sym (t:=tok 33) (by decide) (by decide) (by decide)))
theorem Le.more{T U:List Tk}(h:Le T U):Le T (tok 32::(U++[tok 33])):=by
 obtain⟨N,M,a,b,c⟩:=h
 exact⟨N,1+(M+0),a,Cn.app (T:=[tok 32]) Cn.paren (b.app (Cn.sym (t:=tok 33) (by decide) (by decide) (by decide))),by omega⟩
theorem mis_full{n:Nd}{p q:Ps}(hk:isExpr n.k=true)(h0:¬levelOf n.k n.op=0)(hp:posOk p.l p.d=true)(h:mis n p=true):full n q=true:=by
 by_cases hf:full n q=true
 ·exact hf
 ·exfalso
  unfold full at hf
  simp at hf
  have hfit:ps.fits n.k n.op p.l p.d p.i p.g p.s=true:=by
   have hr:=et.expr_range hk
   have j:=hf.1
   have hkk:n.k=1∨n.k=2∨n.k=3∨n.k=5∨n.k=7∨n.k=8:=by
    have:=lv.lev_range n.op
    unfold levelOf at j
    repeat' split at j
    all_goals omega
   have:=(pos_range hp).2.1
   unfold ps.fits
   rw[hp,j,decide_eq_true this]
   rcases hkk with e|e|e|e|e|e<;>simp[ps.forb,e]
  unfold mis at h
  rw[hfit]at h
  cases h
theorem Le.lst{E E':Nat→Ps→List Tk}{n:Nd}(hE:∀j,j<n.kids.length→Le (E (kd n j) top) (E' (kd n j) top)):∀J,J≤n.kids.length→Le (lst E n J) (lst E' n J):=by
 intro J
 induction J with
 |zero=>intro _;exact Le.same Cn.nil
 |succ J ih=>
  intro hJ
  refine Le.app (Le.app (ih (by omega)) ?_) (hE J (by omega))
  show Le (if J=0 then[]else[tok 36]) (if J=0 then[]else[tok 36])
  split
  ·exact Le.same Cn.nil
  ·exact Le.sym (t:=tok 36) (by decide) (by decide) (by decide)
theorem cle{l:List Nd}(ht:treeOk l=true):∀f i p q,i<f→i<l.length→isExpr (l.getD i default).k=true→posOk p.l p.d=true→Le (un mis l f i p) (un full l f i q):=by
 intro f
 induction f with
 |zero=>intro i p q h;omega
 |succ f ih=>
  intro i p q hif hi hk hp
  rw[et.un_succ,et.un_succ]
  obtain⟨n,hn⟩:∃n,l.getD i default=n:=⟨_,rfl⟩
  rw[hn]at hk⊢
  have hG:=Good.at ht hi hn hk
  obtain⟨-,-,-,ho,htx,-⟩:=flds ht hi hn hk
  have hr:=et.expr_range hk
  have hkid:∀j,j<n.kids.length→kd n j<f∧kd n j<l.length∧isExpr (l.getD (kd n j) default).k=true:=fun j hj=>⟨by have:=(hG.kids j hj).1;omega,Nat.lt_trans (hG.kids j hj).1 hi,(hG.kids j hj).2.2⟩
  have hE:∀j,j<n.kids.length→∀p q,posOk p.l p.d=true→Le (et.ex mis l f (kd n j) p) (et.ex full l f (kd n j) q):=by
   intro j hj p q hp
   obtain⟨k1,k2,k3⟩:=hkid j hj
   unfold et.ex par
   by_cases hm:mis (l.getD (kd n j) default) p=true
   ·rw[if_pos hm,if_pos (mis_full k3 (et.level_some (Good.at ht k2 rfl k3)) hp hm)]
    exact Le.both (ih _ _ _ k1 k2 k3 (by decide))
   ·rw[if_neg hm]
    split
    ·exact Le.more (ih _ _ _ k1 k2 k3 hp)
    ·exact ih _ _ _ k1 k2 k3 hp
  have hT:∀j,j<n.kids.length→Le (et.ex mis l f (kd n j) top) (et.ex full l f (kd n j) top):=fun j hj=>hE j hj top top (by decide)
  have hL:Le (lst (et.ex mis l f) n n.kids.length) (lst (et.ex full l f) n n.kids.length):=Le.lst hT _ (Nat.le_refl _)
  have hpos:Open n→∀K:Int,0≤K∧K<(n.kids.length:Int)→posOk (kp n K p).l (kp n K p).d=true:=fun hO K hK=>(kp_ok hO ho hp hK).1
  have hU:Open n→0<n.kids.length→Le (un mis l f (kd n 0) (kp n 0 p)) (un full l f (kd n 0) (kp n 0 q)):=fun hO hj=>by
   obtain⟨k1,k2,k3⟩:=hkid 0 hj
   exact ih _ _ _ k1 k2 k3 (hpos hO 0 (by omega))
  have hK:Open n→∀K:Nat,K<n.kids.length→Le (et.ex mis l f (kd n K) (kp n K p)) (et.ex full l f (kd n K) (kp n K q)):=fun hO K hj=>hE K hj _ _ (hpos hO K (by omega))
  have h1:n.k=6∨n.k=9∨n.k=10∨n.k=11→0<n.kids.length:=fun h=>by rw[hG.one h];exact Nat.one_pos
  have y:Le [tok 33] [tok 33]:=Le.sym (t:=tok 33) (by decide) (by decide) (by decide)
  have sop:¬n.op=32→¬n.op=7→¬n.op=8→Le [tok n.op] [tok n.op]:=fun a b c=>Le.sym (t:=tok n.op) a b c
  have hcase:n.k=1∨n.k=2∨n.k=3∨n.k=4∨n.k=5∨n.k=6∨n.k=7∨n.k=8∨n.k=9∨n.k=10∨n.k=11∨n.k=12∨n.k=13∨n.k=14∨n.k=15:=by omega
  rcases hcase with h|h|h|h|h|h|h|h|h|h|h|h|h|h|h
  ·rw[et.body_1 h,et.body_1 h];exact Le.nam (k:=6) (by decide) (by decide) (by decide)
  ·rw[et.body_2 h,et.body_2 h];exact Le.nam (k:=3) (by decide) (by decide) (by decide)
  ·rw[et.body_3 h,et.body_3 h];exact Le.nam (k:=4) (by decide) (by decide) (by decide)
  ·rw[et.body_4 h,et.body_4 h];exact Le.nam (k:=5) (by decide) (by decide) (by decide)
  ·rw[et.body_5 h,et.body_5 h]
   exact Le.app (T:=[nam 6 n.s]) (U:=[nam 6 n.s]) (Le.nam (k:=6) (by decide) (by decide) (by decide)) (Le.app (T:=[tok 34]) (U:=[tok 34]) (Le.sym (t:=tok 34) (by decide) (by decide) (by decide)) (Le.app hL (Le.sym (t:=tok 35) (by decide) (by decide) (by decide))))
  ·rw[et.body_6 h,et.body_6 h]
   exact Le.app (T:=[tok 68]) (U:=[tok 68]) (Le.sym (t:=tok 68) (by decide) (by decide) (by decide)) (hK (by unfold Open;omega) 0 (h1 (by omega)))
  ·rw[et.body_7 h,et.body_7 h]
   exact Le.fn (t:=nam 7 n.s) (.inl rfl) (Le.app hL y)
  ·rw[et.body_8 h,et.body_8 h]
   exact Le.fn (t:=nam 8 n.s) (.inr rfl) (Le.app hL y)
  ·rw[et.body_9 h,et.body_9 h]
   have hop:n.op=51∨n.op=52:=by rw[h]at ho;simpa [rt.opOk]using ho
   exact Le.app (T:=[tok n.op]) (U:=[tok n.op]) (sop (by omega) (by omega) (by omega)) (hU (by unfold Open;omega) (h1 (by omega)))
  ·rw[et.body_10 h,et.body_10 h]
   have hop:n.op=51∨n.op=52:=by rw[h]at ho;simpa [rt.opOk]using ho
   exact Le.app (hU (by unfold Open;omega) (h1 (by omega))) (sop (by omega) (by omega) (by omega))
  ·rw[et.body_11 h,et.body_11 h]
   have hop:n.op=55∨n.op=56∨n.op=61:=by rw[h]at ho;simpa [rt.opOk,or_assoc]using ho
   exact Le.app (T:=[tok n.op]) (U:=[tok n.op]) (sop (by omega) (by omega) (by omega)) (hK (by unfold Open;omega) 0 (h1 (by omega)))
  ·rw[et.body_12 h,et.body_12 h]
   have hlen:=hG.two (.inl h)
   have hO:Open n:=by unfold Open;omega
   have hb:rt.isBin n.op=true:=by rw[h]at ho;simpa [rt.opOk]using ho
   refine Le.app (hK hO 0 (by omega)) (Le.app ?_ (hK hO 1 (by omega)))
   split
   ·exact Le.same Cn.nil
   ·simp only[rt.isBin,Bool.or_eq_true,beq_iff_eq]at hb
    exact sop (by omega) (by omega) (by omega)
  ·rw[et.body_13 h,et.body_13 h]
   have hz:Le ([tok 24]++[nam 6 n.s]) ([tok 24]++[nam 6 n.s]):=Le.app (Le.sym (t:=tok 24) (by decide) (by decide) (by decide)) (Le.nam (k:=6) (by decide) (by decide) (by decide))
   split
   ·exact Le.app (Le.both hL) hz
   ·exact Le.app (hK (by have:=hG.least (.inr h);unfold Open;omega) 0 (by have:=hG.least (.inr h);omega)) hz
  ·rw[et.body_14 h,et.body_14 h]
   have hlen:=hG.three h
   have hO:Open n:=by unfold Open;omega
   exact Le.app (hK hO 0 (by omega)) (Le.app (T:=[tok 65]) (U:=[tok 65]) (Le.sym (t:=tok 65) (by decide) (by decide) (by decide)) (Le.app (hK hO 1 (by omega)) (Le.app (T:=[tok 66]) (U:=[tok 66]) (Le.sym (t:=tok 66) (by decide) (by decide) (by decide)) (hK hO 2 (by omega)))))
  ·rw[et.body_15 h,et.body_15 h]
   have hlen:=hG.two (.inr h)
   have hO:Open n:=by unfold Open;omega
   have hop:n.op=54∨(38≤n.op∧n.op≤43):=by
    rw[h]at ho
    simp[rt.opOk,chars.inR]at ho
    omega
   exact Le.app (hU hO (by omega)) (Le.app (T:=[tok n.op]) (U:=[tok n.op]) (sop (by omega) (by omega) (by omega)) (hK hO 1 (by omega)))
theorem full_fits:∀n:Nd,∀q:Ps,isExpr n.k=true→¬levelOf n.k n.op=0→posOk q.l q.d=true→full n q=false→ft n.k n.op q=true:=by
 intro n q hk h0 hq hf
 have hm:¬mis n q=true:=fun h=>by rw[mis_full (q:=q) hk h0 hq h]at hf;cases hf
 unfold mis at hm
 unfold ft
 simpa using hm
theorem full_read{l:List Nd}(h:rt.exprOk l=true)(hs:∀t∈l,t.s.size≤1048576):(∀t∈tw.ftoks l,t.s.size≤1048576)∧(tw.ftoks l).length≤2400∧(0≤pb.nestOf (tw.ftoks l)∧(pe.parse (tw.ftoks l) top).k=4∨pe.parse (tw.ftoks l) top=⟨l,(tw.ftoks l).length,0,0⟩)∧pb.pc (tw.etoks l top) (tw.etoks l top).length≤pb.pc (tw.ftoks l) (tw.ftoks l).length:=by
 obtain⟨ht,h0,hk⟩:=tw.expr_parts h
 have hif:l.length-1<l.length:=by omega
 have hE:tw.etoks l top=et.ex mis l l.length (l.length-1) top:=by unfold tw.etoks;rw[if_pos ⟨h,by decide⟩]
 have hF:tw.ftoks l=et.ex full l l.length (l.length-1) top:=by unfold tw.ftoks;rw[if_pos h]
 have hok:=exok ht hs top hif hif hk
 have hlen:=et.ex_len (enc:=full) (p:=top) ht hif hif hk
 have hd:=inst_ex ht full_fits hif hif hk (show posOk top.l top.d=true by decide)
 have hle:Le (et.ex mis l l.length (l.length-1) top) (et.ex full l l.length (l.length-1) top):=by
  unfold et.ex par
  by_cases hm:mis (l.getD (l.length-1) default) top=true
  ·rw[if_pos hm,if_pos (mis_full hk (et.level_some (Good.at ht hif rfl hk)) (by decide) hm)]
   exact Le.both (cle ht _ _ _ _ hif hif hk (by decide))
  ·rw[if_neg hm]
   split
   ·exact Le.more (cle ht _ _ _ _ hif hif hk (by decide))
   ·exact cle ht _ _ _ _ hif hif hk (by decide)
 rw[hE,hF]
 obtain⟨T,hT⟩:∃T,et.ex full l l.length (l.length-1) top=T:=⟨_,rfl⟩
 rw[hT]at hok hlen hd hle⊢
 have htok:tokensOk T=true:=by
  unfold tokensOk
  rw[decide_eq_true (by omega:T.length≤3000)]
  obtain⟨c,c7,c2,c3,c4⟩:=hok.2 0 (by decide) (by decide)
  have:=c4 []
  rw[List.append_nil]at this
  rw[this]
  show(true&&(c !=7))=true
  simp[c7]
 refine⟨hok.1,hlen, ?_, ?_⟩
 ·by_cases hn:0≤pb.nestOf T
  ·left
   refine⟨hn, ?_⟩
   unfold pe.parse pe.tf
   rw[if_pos (by decide),htok,if_pos rfl,if_pos hn]
   rfl
  ·right
   have hend:pe.kd T T.length=0:=pe.kd_end (Nat.le_refl _)
   obtain⟨lv,tg,he⟩:=read_dv (g:=T.length+1) ht hif hk hd (fol_close (by decide) (by rw[hend];decide)) (by rw[hend];decide) (by omega)
   have htf:pe.tf T=(0,0):=by unfold pe.tf;rw[if_pos htok,if_neg hn]
   unfold pe.parse
   rw[if_pos (by decide),htf,if_pos rfl,he,sub_all ht]
   have hsf:pe.sf l=(0,0):=by
    have h1:=(nd.shape_yes (et.tree_parts ht).1).2.1
    have h2:nd.depthF l≤40:=by
     unfold treeOk at ht
     rw[Bool.and_eq_true,Bool.and_eq_true,decide_eq_true_eq]at ht
     exact ht.1.2
    unfold pe.sf
    rw[if_neg (by omega),if_neg (by omega)]
   show pe.finish T (.ok lv tg l T.length)=_
   show(if(pe.sf l).1=0 then(⟨l,T.length,0,0⟩:pe.Out)else⟨[],0,(pe.sf l).1,(pe.sf l).2⟩)=_
   rw[hsf]
   rfl
 ·rw[pc_all,pc_all]
  obtain⟨N,M,a,b,c⟩:=hle
  obtain⟨c1,-,-,e1⟩:=a 0 (by decide) (by decide)
  obtain⟨c2,-,-,e2⟩:=b 0 (by decide) (by decide)
  have e1:=e1 []
  have e2:=e2 []
  rw[List.append_nil]at e1 e2
  rw[e1,e2]
  show N+0≤M+0
  omega
end Go.Proofs.YtebjmdpkobhcbaaGreatDoor.rb
