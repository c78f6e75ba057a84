/-

-/
import Derived.Test.YtnoagleifffkcaaGreatDoorZoShift
import Derived.Test.YtnoagleifffkcaaGreatDoorZoGSt
namespace Go.Proofs.YtnoagleifffkcaaGreatDoor.nd
open Go.ChangeShapes Go.WideShapes Go.ChangeAt Go.RowKit
set_option linter.unusedVariables false
def partS(l:List Nd)(S I:Nat):List Nd:=((l.drop S).take (I+1-S)).map (shN (-(S:Int)))
def partF(l:List Nd)(i:Int):List Nd:=if shape l=true∧0≤i∧i<l.length then partS l ((stO l).getD i.toNat 0) i.toNat else[]
def PtOut(l:List Nd)(w:World)(e:Ending)(w':World):Prop:=
 ∃v z r,e= .returned v∧z.map (·.1)=l∧PT w.heap.size v z r w'∧Below w.heap.size w w'
theorem PT.made{B:Nat}{w:World}(n:Nat)(hn:n≤1048576)(hB:B≤w.heap.size):PT B (.slice (some ⟨w.heap.size,0,none⟩) 0 n) [] (fun i=>i) (w.alloc (.cells (madeCells #[.int .i64 0,.int .i64 0,.string ⟨#[]⟩,.string ⟨#[]⟩,.slice none 0 0] (n*5)) 57)):=
 ⟨⟨rfl,.inr ⟨w.heap.size,n,_,rfl,hB,heap_alloc_new w _,Nat.zero_le _,by unfold maxLen;omega,by simp[madeCells],by simp[fl]⟩⟩,fun i h=>by simp at h,fun i h=>by simp at h,fun i j _ h=>by simp at h,fun i h=>by simp at h⟩
theorem wrap_w(x:Int)(h1: -2000000≤x)(h2:x≤2000000):wrap64 x=x:=by unfold wrap64;omega
def RelPa(B:Nat)(W:World)(q:List Nd)(v j:Value)(wr:World):Prop:=
 ∃(J:Nat) (z:List (Nd×Value)) (r:Nat→Nat),J≤q.length∧PT B v z r wr∧z.map (·.1)=q.take J∧j= .int .i64 (J:Int)∧Below B W wr
end Go.Proofs.YtnoagleifffkcaaGreatDoor.nd

namespace Go.Proofs.YtnoagleifffkcaaGreatDoor.nd
open Lib (hid)
open Go.ChangeShapes Go.WideShapes Go.ChangeAt Go.RowKit
set_option linter.unusedVariables false
theorem cell4{w:World}{g:Nat}{v0 v1 v2 v3 v4:Value}{e:TypeId}(h:w.heap[g]? =some (.cells #[v0,v1,v2,v3,v4] e (0,0))):w.cell? ⟨g,4,none⟩=some v4:=by rw[cell_of_row _ _ 4 _ _ _ h];rfl
theorem cell_past{w:World}{b o:Nat}{v:Value}(z:Obj)(h:w.cell? ⟨b,o,none⟩=some v):(w.alloc z).cell? ⟨b,o,none⟩=some v:=
 (((Below.refl w.heap.size w).alloc (Nat.le_refl _) z).cell (p:=⟨b,o,none⟩) (World.block_lt_of_cell? w _ h)).trans h
theorem wrap_eq(z:Int):IntKind.i64.wrap z=wrap64 z:=by rw[IntKind.wrap_i64];unfold wrap64;omega
def RelSs(B:Nat)(W:World)(q:List Nd)(v j:Value)(wr:World):Prop:=
 ∃(J:Nat) (z:List (Nd×Value)) (r:Nat→Nat),J≤q.length∧PT B v z r wr∧z.map (·.1)=q.take J∧j= .int .i64 (J:Int)∧Below B W wr∧∀i,i<z.length→B≤r i
def PgOut(l:List Nd)(w:World)(e:Ending)(w':World):Prop:=
 ∃v z r,e= .returned v∧z.map (·.1)=l∧PT w.heap.size v z r w'∧Below w.heap.size w w'∧∀i,i<z.length→w.heap.size≤r i
def RelSk(g:Nat)(W:World)(t:Nd)(x:Int)(k:Value)(wr:World):Prop:=
 ∃(K:Nat) (v:Value),K≤t.kids.length∧k= .int .i64 (K:Int)∧OwnI (g+1) v (shK x (t.kids.take K)) wr∧wr.heap[g]? =some (.cells #[.int .i64 t.k,.int .i64 t.op,.string t.s,.string t.t,v] 57 (0,0))∧Below g W wr
set_option maxRecDepth 20000 in
set_option maxHeartbeats 3200000 in
theorem spec_shift2(l:List Nd)(x:Int)(a:Option Addr)(cap:Nat)(w:World)(hn:l.length≤1048576)(hk:∀t∈l,t.kids.length≤1048576)(hc:Lies w.heap.size w a l):
  Calls Tryz.prog 195 #[.slice a l.length cap,.int .i64 x] w (PgOut (l.map (shN x)) w):=by
 have HC:=hid hc
 have HK:=hid hk
 have X:=hid (PT.lit (Nat.le_refl w.heap.size))
 clear hc hk
 go_enter Tryz.func195,Tryz.ntmps195
 go_wp2
 go_loopw [5,6] (fun v j wr=>RelSs w.heap.size w (l.map (shN x)) v j wr) (fun _ j _=>l.length-(intOf j).toNat)
 case atStart=>exact⟨0,[],_,by omega,X.out,by simp,rfl,(Below.refl _ _).alloc (Nat.le_refl _) _,fun i hi=>by simp at hi⟩
 case round=>
  obtain⟨J,z,r,hJ,hpt,hz,rfl,hbel,hge⟩:=hrel
  have HGE:=hid hge
  clear hge
  have HPT:=hid hpt
  have HZ:=hid hz
  have HB:=hid hbel
  rw[List.length_map]at hJ
  have hzl:z.length=J:=by
   have:=congrArg List.length hz
   rw[List.length_map,List.length_take,List.length_map]at this
   omega
  have HZL:=hid hzl
  obtain⟨av,cv,rfl⟩:=hpt.form
  clear hpt hz hbel hzl
  by_cases hlt:J<l.length
  ·obtain⟨b,o,rfl,hb,hcell⟩:=lies_at HC.out hlt
   obtain⟨ak,ck,h5,hik⟩:=hcell J hlt
   have HCW:=hid h5
   obtain⟨c0,c1,c2,c3,c4⟩:=h5.keep HB.out hb
   have HKK:=hid (HK.out l[J] (List.getElem_mem hlt))
   have HSTEP:=hid (show(l.map (shN x)).take (J+1)=(l.map (shN x)).take J++[shN x l[J]] by
    rw[List.take_succ_eq_append_getElem (by simpa using hlt),List.getElem_map])
   obtain⟨t,ht⟩:∃t,t=l[J]:=⟨_,rfl⟩
   rw[←ht]at c0 c1 c2 c3 c4 hik HSTEP HKK HCW
   have HIK:=hid hik
   have hkl:=HKK.out
   have ag:(J:Int)<(l.length:Int):=by omega
   have ae:(0:Int)≤(J:Int):=by omega
   clear ht h5 hik hcell
   obtain⟨wo,hwo⟩:∃wo,wo=wr:=⟨_,rfl⟩
   rw[←hwo]at c0 c1 c2 c3 c4 HB HPT⊢
   clear hwo
   go_wp2
   obtain⟨g,hg⟩:∃g,g=wo.heap.size:=⟨_,rfl⟩
   have HG:=hid hg
   rw[←hg]
   clear hg
   go_loopw [8] (fun k wr=>RelSk g wo t x k wr) (fun k _=>t.kids.length-(intOf k).toNat)
   case atStart=>
    have hsz:(wo.alloc (.cells #[.int .i64 t.k,.int .i64 t.op,.string t.s,.string t.t,.slice (some ⟨g+1,0,none⟩) 0 0] 57)).heap.size=g+1:=by simp[HG.out]
    have ho:=OwnI.lit (B:=g+1) (w:=wo.alloc (.cells #[.int .i64 t.k,.int .i64 t.op,.string t.s,.string t.t,.slice (some ⟨g+1,0,none⟩) 0 0] 57)) (by rw[hsz];exact Nat.le_refl _)
    rw[hsz]at ho
    refine⟨0,_,by omega,rfl,ho, ?_,by rw[HG.out];exact((Below.refl _ _).alloc (Nat.le_refl _) _).alloc (by simp) _⟩
    rw[Below.heap_alloc _ _ _ (by rw[hsz];omega),HG.out]
    exact heap_alloc_new wo _
   case round=>
    obtain⟨K,v,hK,rfl,hown,hbox,hbel⟩:=hrel
    have HOWN:=hid hown
    have HBOX:=hid hbox
    have HBW:=hid hbel
    obtain⟨uv,uc,rfl⟩:=hown.form
    have hwg:w.heap.size≤g:=by rw[HG.out];exact HB.size
    have hbg:b<g:=by omega
    have q4:=(HBW.cell (p:=⟨b,o+J*5+4,none⟩) (show b<g by omega)).trans c4
    have b4:wr.cell? ⟨g,4,none⟩=some (.slice uv (shK x (t.kids.take K)).length uc):=by rw[cell_of_row _ _ 4 _ _ _ hbox];rfl
    have f4:wr.frozen? ⟨g,4,none⟩=false:=frozen_of_row _ _ 4 _ _ hbox
    have HWG:=hid hwg
    clear hown hbox hbel hwg hbg
    by_cases hkt:K<t.kids.length
    ·have HKL:=hid (shK_step x hkt)
     obtain⟨bk,ok,rfl,hbk,hkc⟩:=ints_at HIK.out hkt
     have d0:=(HBW.cell (p:=⟨bk,ok+K,none⟩) (show bk<g by have:=HWG.out;omega)).trans ((HB.cell (p:=⟨bk,ok+K,none⟩) hbk).trans (hkc K hkt))
     obtain⟨y,hy⟩:∃y,y=t.kids[K]:=⟨_,rfl⟩
     rw[←hy]at d0 HKL
     have Y:(K:Int)<(t.kids.length:Int):=by omega
     have af:(0:Int)≤(K:Int):=by omega
     have HO:=hid (fun W' (hb:Below wr.heap.size wr W')=>HOWN.keep hb (Nat.le_refl _))
     have HIL:=hid (show(shK x (t.kids.take K)).length≤1048576 by rw[shK_len,List.length_take];omega)
     have HGL:=hid (lt_of_heap HBOX.out)
     have B4:∀z,(wr.alloc z).cell? ⟨g,4,none⟩=some (.slice uv (shK x (t.kids.take K)).length uc):=fun z=>cell_past z b4
     clear hy hkc
     go_wp2
     go_region_law (first|(refine step_append_int (by rfl) _ _ (by rfl) (g+1) _ _ (IntKind.i64.wrap (y+x)) (by rfl) (HO.out _ (by first|exact(Below.refl _ wr).alloc (Nat.le_refl _) _|exact((Below.refl _ wr).alloc (Nat.le_refl _) _).drew|exact((Below.refl _ wr).drew).alloc (Nat.le_refl _) _)) wr.heap.size (by rfl) (by exact heap_alloc_new wr _) HIL.out (by simp;exact Nat.le_of_lt HGL.out) ?_;intro g2 I w3 G b3;have F:w3.heap[g]? =some (.cells #[.int .i64 t.k,.int .i64 t.op,.string t.s,.string t.t,.slice uv (shK x (t.kids.take K)).length uc] 57 (0,0)):=(b3.block g (Nat.lt_succ_self g)).trans ((Below.heap_alloc wr _ g HGL.out).trans HBOX.out);have x4:w3.cell? ⟨g,4,none⟩=some (.slice uv (shK x (t.kids.take K)).length uc):=cell4 F;have y4:w3.frozen? ⟨g,4,none⟩=false:=frozen_of_row _ _ 4 _ _ F))
     all_goals
      go_wp2
      go_roundw
      case rel=>
       have hbe:Below g wo (w3.setCell ⟨g,4,none⟩ (.slice (some ⟨g2,0,none⟩) ((shK x (t.kids.take K)).length+1) I)):=
        (HBW.trans ((((Below.refl wr.heap.size wr).alloc (Nat.le_refl _) _).drew.mono (Nat.le_of_lt HGL.out)).trans (b3.mono (Nat.le_succ g)))).setCell (p:=⟨g,4,none⟩) (Nat.le_refl _) _
       rw[wrap_eq,←HKL.out]at G
       have ho:=ownsRow_setCell_below G (a:=⟨g,4,none⟩) (Nat.lt_succ_self g) (.slice (some ⟨g2,0,none⟩) ((shK x (t.kids.take K)).length+1) I)
       exact⟨K+1,_,by omega,by go_num,ho,heap_setCell_same w3 g 4 _ _ _ F,hbe⟩
      case measure=>simp[intOf];omega
    ·have hKt:K=t.kids.length:=by omega
     have HO:=hid (show OwnI (g+1) (.slice uv t.kids.length uc) (shK x t.kids) wr by have:=HOWN.out;rwa [List.take_of_length_le (by omega),shK_len]at this)
     have e4:(shK x (t.kids.take K)).length=t.kids.length:=by rw[shK_len,List.length_take];omega
     rw[e4]at b4 HBOX
     have b0:wr.cell? ⟨g,0,none⟩=some (.int .i64 t.k):=by rw[cell_of_row _ _ 0 _ _ _ HBOX.out];rfl
     have b1:wr.cell? ⟨g,1,none⟩=some (.int .i64 t.op):=by rw[cell_of_row _ _ 1 _ _ _ HBOX.out];rfl
     have b2:wr.cell? ⟨g,2,none⟩=some (.string t.s):=by rw[cell_of_row _ _ 2 _ _ _ HBOX.out];rfl
     have b3:wr.cell? ⟨g,3,none⟩=some (.string t.t):=by rw[cell_of_row _ _ 3 _ _ _ HBOX.out];rfl
     have P:g+1≤wr.heap.size:=lt_of_heap HBOX.out
     have hwr:w.heap.size≤wr.heap.size:=Nat.le_trans HWG.out (by omega)
     have HWR:=hid hwr
     have hup:∀q,(Value.slice uv t.kids.length uc).ownBlock=some q→g≤q:=fun q hq=>Nat.le_of_succ_le (World.ownsRow.lt HO.out q hq).1
     obtain⟨bk,S,O,hkv⟩:=KidV.of_own (HO.up (Nat.le_succ_of_le HWG.out)) g P HWG.out hup
     have ac:=hid (HPT.keep HBW.out (by rw[HG.out];exact Nat.le_refl _))
     have hoff:(Value.slice av z.length cv).ownBlock≠some bk:=fun e=>by
      have:=(World.ownsRow.lt HPT.own bk e).2
      have:=HG.out
      omega
     have hrb:∀i,i<z.length→r i≠bk:=fun i hi=>Nat.ne_of_lt (Nat.lt_of_lt_of_le (HPT.lt i hi) (by have:=HG.out;omega))
     have HZLE:=hid (show z.length≤1048576 by rw[HZL.out];omega)
     have HKV:=hid (show KidV w.heap.size wr bk (.slice uv t.kids.length uc) (shN x t).kids from hkv)
     have HOFF:=hid hoff
     have HRB:=hid hrb
     have HBK:=hid O
     have ab:=hid (Nat.le_trans HWG.out S)
     have Y:¬(K:Int)<(t.kids.length:Int):=by omega
     have HBB:=hid (HB.trans (HBW.mono HWG.out))
     clear P hwr hup hkv hoff hrb S O e4 hKt
     go_wp2_with (refine wpList_append_node _ (shN x t) _ rfl _ _ rfl w.heap.size _ z r bk rfl ac.out rfl rfl HZLE.out HWR.out HKV.out HRB.out HBK.out HOFF.out ?_;intro v' r' w4 V aa Z ad)
     go_roundw
     case rel=>
      refine⟨J+1,_,r',by rw[List.length_map];omega,V, ?_,by go_num,HBB.trans aa,fun i hi=> ?_⟩
      ·rw[List.map_append,HZ.out,HSTEP.out]
       rfl
      ·simp at hi
       by_cases he:i<z.length
       ·rw[Z i he];exact HGE.out i he
       ·rw[show i=z.length by omega,ad];exact ab.out
     case measure=>simp[intOf];omega
  ·obtain rfl:J=l.length:=by omega
   go_wp2
   go_ret
   exact⟨_,z,r,rfl,by rw[HZ.out,List.take_of_length_le (by simp)],HPT.out,HB.out,HGE.out⟩
end Go.Proofs.YtnoagleifffkcaaGreatDoor.nd

namespace Go.Proofs.YtnoagleifffkcaaGreatDoor.nd
open Go.ChangeShapes Go.WideShapes Go.ChangeAt Go.RowKit
set_option linter.unusedVariables false
theorem KidV.down{B B':Nat}{w:World}{r:Nat}{v:Value}{l:List Int}(h:KidV B w r v l)(hB:B'≤B):KidV B' w r v l:=by
 rcases h with h|⟨cap,e1,e2,e3⟩
 ·exact .inl h
 ·exact .inr ⟨cap,e1,e2,Nat.le_trans hB e3.1,e3.2⟩
theorem PT.up{B B':Nat}{v:Value}{z:List (Nd×Value)}{r:Nat→Nat}{w:World}(h:PT B v z r w)(hB:B'≤B):PT B' v z r w:=
 ⟨⟨h.own.1,h.own.2.elim .inl (fun⟨g,cap,cur,hv,hg,r⟩=> .inr ⟨g,cap,cur,hv,Nat.le_trans hB hg,r⟩)⟩,fun i hi=>(h.kid i hi).down hB,h.off,h.asc,h.lt⟩
theorem Lies.sub{B:Nat}{w:World}{b o:Nat}{l:List Nd}(h:Lies B w (some ⟨b,o,none⟩) l)(S m:Nat)(hm:S+m≤l.length):Lies B w (some ⟨b,o+S*5,none⟩) ((l.drop S).take m):=by
 by_cases h0:m=0
 ·exact .inl (by rw[h0];simp)
 obtain⟨b',o',e,hb,hc⟩:=lies_at h (I:=S) (by omega)
 injection e with e
 injection e with e1 e2 _
 subst e1 e2
 refine .inr ⟨b,o+S*5,rfl,hb,fun i hi=> ?_⟩
 simp at hi
 have:=hc (S+i) (by omega)
 rw[show o+S*5+i*5=o+(S+i)*5 by omega]
 simpa using this
structure LP(W3:World)(w:World):Prop where
 bel:Below W3.heap.size W3 w
 le:W3.heap.size≤w.heap.size
end Go.Proofs.YtnoagleifffkcaaGreatDoor.nd

namespace Go.Proofs.YtnoagleifffkcaaGreatDoor.nd
open Lib (hid)
open Go.ChangeShapes Go.WideShapes Go.ChangeAt Go.RowKit
set_option linter.unusedVariables false
def makeGo:List (List Nd)→List Nd→List Int→List Nd×List Int
 |[],out,ks=>(out,ks)
 |q::ps,out,ks=>makeGo ps (out++q.map (shN (out.length:Int))) (ks++[((out++q.map (shN (out.length:Int))).length:Int)-1])
def makeT(n:Nd)(ps:List (List Nd)):List Nd:=(makeGo ps [] []).1++[{n with kids:=(makeGo ps [] []).2}]
theorem makeGo_snoc:∀(ps:List (List Nd)) (q:List Nd) (out:List Nd) (ks:List Int),makeGo (ps++[q]) out ks=((makeGo ps out ks).1++q.map (shN ((makeGo ps out ks).1.length:Int)),(makeGo ps out ks).2++[(((makeGo ps out ks).1++q.map (shN ((makeGo ps out ks).1.length:Int))).length:Int)-1]):=by
 intro ps
 induction ps with
 |nil=>intro q out ks;rfl
 |cons x ps ih=>intro q out ks;simp only[List.cons_append,makeGo];rw[ih]
theorem makeGo_klen:∀(ps:List (List Nd)) (out:List Nd) (ks:List Int),(makeGo ps out ks).2.length=ks.length+ps.length:=by
 intro ps
 induction ps with
 |nil=>intro out ks;simp[makeGo]
 |cons x ps ih=>intro out ks;simp only[makeGo];rw[ih];simp;omega
def sumL:List (List Nd)→Nat
 |[]=>0
 |q::ps=>q.length+sumL ps
theorem makeGo_len:∀(ps:List (List Nd)) (out:List Nd) (ks:List Int),(makeGo ps out ks).1.length=out.length+sumL ps:=by
 intro ps
 induction ps with
 |nil=>intro out ks;simp[makeGo,sumL]
 |cons x ps ih=>intro out ks;simp only[makeGo];rw[ih];simp[sumL];omega
def Parts(B:Nat)(w:World)(a:Option Addr)(ps:List (List Nd)):Prop:=
 ps=[]∨∃b o,a=some ⟨b,o,none⟩∧b<B∧∀i (h:i<ps.length),∃ai ci,w.cell? ⟨b,o+i,none⟩=some (.slice ai ps[i].length ci)∧Lies B w ai ps[i]
theorem parts_at{B:Nat}{w:World}{a:Option Addr}{ps:List (List Nd)}{I:Nat}(h:Parts B w a ps)(hI:I<ps.length):∃b o,a=some ⟨b,o,none⟩∧b<B∧∀i (h:i<ps.length),∃ai ci,w.cell? ⟨b,o+i,none⟩=some (.slice ai ps[i].length ci)∧Lies B w ai ps[i]:=by
 rcases h with h|h
 ·rw[h]at hI;simp at hI
 ·exact h
theorem Parts.keep{B B':Nat}{w w':World}{a:Option Addr}{ps:List (List Nd)}(h:Parts B w a ps)(hb:Below B' w w')(hB:B≤B'):Parts B w' a ps:=by
 rcases h with h|⟨b,o,rfl,hlt,hc⟩
 ·exact .inl h
 ·refine .inr ⟨b,o,rfl,hlt,fun i hi=> ?_⟩
  obtain⟨ai,ci,e,hl⟩:=hc i hi
  exact⟨ai,ci,(hb.cell (p:=⟨b,o+i,none⟩) (Nat.lt_of_lt_of_le hlt hB)).trans e,hl.keep hb hB⟩
theorem wpList_append_int2(w:World)(z:Int){ops:Array Oper}{rest:List Oper}{o:Oper}{a:Act}{Q:Exit→Act→World→Prop}(hgd:o.guard=none)(s x:Operand)
  (ho:o.op= .call {callee:= .builtin .append,args:= #[s,x],argTypes:= #[55,55]}) (B:Nat) (v:Value) (d:List Int) (hs:a.eval s=v)
  (hown:OwnI B v d w) (hx:a.eval x= .slice (some ⟨w.heap.size,0,none⟩) 1 1) (hn:d.length≤1048576) (hB:B≤w.heap.size)
  (h:∀g cap w',OwnI B (.slice (some ⟨g,0,none⟩) (d.length+1) cap) (d++[z]) w'→Below B w w'→w.grownBy w' v.ownBlock→(v.ownBlock=some g∨w.heap.size≤g)→wpList Tryz.prog ops Q rest (a.put o.dst (.slice (some ⟨g,0,none⟩) (d.length+1) cap)) w'):
  wpList Tryz.prog ops Q (o::rest) a (w.alloc (.cells #[.int .i64 z] 3)):=by
 obtain⟨i0,hi,y,F,e⟩:=info_parts Tryz.infoInt
 refine wpList_append_lies _ hgd s x 55 ho B 3 i0 _ 1 8 Tryz.underlying55 hi y F e rfl (by decide) v d.length (ivals d) hs (hown.alloc _) ⟨w.heap.size,0,none⟩ 1 1 [.int .i64 z] hx rfl ?_ ?_ (by decide) (by unfold maxLen;omega) (by omega) (by simp;omega) (w.heap.size+1) (by simp) ?_
 ·intro j u hj
  rw[show((⟨w.heap.size,0,none⟩:Addr).add j)=⟨w.heap.size,j,none⟩ by unfold Addr.add;split<;>simp_all]
  rw[cell_of_row _ w.heap.size j _ _ _ (heap_alloc_new w _)]
  simpa using hj
 ·intro u hu
  simp at hu
  rcases hu with rfl<;>rfl
 ·intro g cap w' hown' hg hor _
  refine h g cap w' ?_ ?_ ?_ (hor.imp id (fun h=>by omega))
  ·unfold OwnI
   rw[ivals_snoc,List.length_append]
   exact hown'
  ·refine((Below.refl B w).alloc hB _).grown hg (by simp;omega) ?_
   intro k hk
   exact(World.ownsRow.lt hown k hk).1
  ·exact⟨hg.os,hg.tape,hg.output,by have:=hg.size;simp at this;omega,fun k hk hne=>by rw[hg.block k (by simp;omega) hne];exact Below.heap_alloc w _ k hk⟩
theorem fl_one{B:Nat}{w:World}{r:Nat→Nat}:∀(z:List (Nd×Value)),(∀i (h:i<z.length),KidV B w (r i) z[i].2 z[i].1.kids)→∀u∈fl z,u.oneCell'=true:=by
 intro z h u hu
 have hv:∀t∈z,t.2.oneCell'=true:=fun t ht=>by
  obtain⟨i,hi,rfl⟩:=List.mem_iff_getElem.1 ht
  obtain⟨a,c,e,_⟩:=(h i hi).form
  rw[e];rfl
 clear h
 induction z with
 |nil=>cases hu
 |cons t z ih=>
  obtain⟨n,v⟩:=t
  simp only[fl,List.mem_cons]at hu
  rcases hu with rfl|rfl|rfl|rfl|rfl|hu
  ·rfl
  ·rfl
  ·rfl
  ·rfl
  ·exact hv (n,u) (List.mem_cons_self ..)
  ·exact ih hu (fun t ht=>hv t (List.mem_cons_of_mem _ ht))
theorem fl_len(z:List (Nd×Value)):(fl z).length=z.length*5:=by
 induction z with
 |nil=>rfl
 |cons t z ih=>obtain⟨n,v⟩:=t;simp[fl,ih];omega
theorem wpList_append_pt(w:World){ops:Array Oper}{rest:List Oper}{o:Oper}{a:Act}{Q:Exit→Act→World→Prop}(hgd:o.guard=none)(s x:Operand)
  (ho:o.op= .call {callee:= .builtin .append,args:= #[s,x],argTypes:= #[24,24]}) (B S:Nat) (v:Value) (d:List (Nd×Value)) (r:Nat→Nat) (hs:a.eval s=v)
  (hown:PT B v d r w) (g2 c2:Nat) (d2:List (Nd×Value)) (r2:Nat→Nat) (hown2:PT S (.slice (some ⟨g2,0,none⟩) d2.length c2) d2 r2 w) (hx:a.eval x= .slice (some ⟨g2,0,none⟩) d2.length c2) (h0:0<d2.length) (hn:d.length+d2.length≤1048576) (hB:B≤w.heap.size) (hBS:B≤S)
  (hap:∀i j,i<d.length→j<d2.length→r i≠r2 j) (hoff:∀j,j<d2.length→v.ownBlock≠some (r2 j))
  (h:∀g cap w' r',PT B (.slice (some ⟨g,0,none⟩) (d.length+d2.length) cap) (d++d2) r' w'→(∀i,i<d.length→r' i=r i)→(∀j,j<d2.length→r' (d.length+j)=r2 j)→Below B w w'→w.grownBy w' v.ownBlock→(v.ownBlock=some g∨w.heap.size≤g)→wpList Tryz.prog ops Q rest (a.put o.dst (.slice (some ⟨g,0,none⟩) (d.length+d2.length) cap)) w'):
  wpList Tryz.prog ops Q (o::rest) a w:=by
 obtain⟨i0,hi,F,G,y⟩:=info_parts Tryz.infoNode
 refine wpList_append_lies _ hgd s x 24 ho B 57 i0 _ 5 72 Tryz.underlying24 hi F G y rfl (by decide) v d.length (fl d) hs hown.own ⟨g2,0,none⟩ d2.length c2 (fl d2) hx (fl_len d2) ?_ (fl_one d2 hown2.kid) h0 (by unfold maxLen;omega) (by omega) hB w.heap.size rfl ?_
 ·intro j q hj
  rw[show((⟨g2,0,none⟩:Addr).add j)=⟨g2,j,none⟩ by unfold Addr.add;split<;>simp_all]
  rw[World.ownsRow.cellAt hown2.own j (by
   have:=(List.getElem?_eq_some_iff.1 hj).1
   rw[fl_len]at this
   exact this)]
  exact hj
 ·intro g cap w' hown' hg hor _
  have hsz:=hg.size
  have hkeep:∀k,k<w.heap.size→v.ownBlock≠some k→w'.heap[k]? =w.heap[k]? :=fun k hk hne=>hg.block k hk (fun e=>hne e.symm)
  have hgne:∀k,k<w.heap.size→v.ownBlock≠some k→g≠k:=fun k hk hne e=>by
   rcases hor with e2|e2
   ·exact hne (by rw[e2,e])
   ·omega
  refine h g cap w' (fun i=>if i<d.length then r i else r2 (i-d.length)) ⟨?_,fun i hi=> ?_,fun i hi=> ?_,fun i j hij hj=> ?_,fun i hi=> ?_⟩ (fun i hi=>if_pos hi) (fun j hj=>by simp only[if_neg (show¬d.length+j<d.length by omega),Nat.add_sub_cancel_left]) ?_ hg (hor.imp id (fun e=>by omega))
  ·unfold OwnN
   rw[fl_append,List.length_append]
   exact hown'
  ·simp at hi
   by_cases he:i<d.length
   ·simp only[List.getElem_append_left he,if_pos he]
    exact(hown.kid i he).keep (hkeep _ (hown.lt i he) (hown.off i he))
   ·have hj:i-d.length<d2.length:=by omega
    simp only[List.getElem_append_right (show d.length≤i by omega),if_neg he]
    exact((hown2.kid _ hj).keep (hkeep _ (hown2.lt _ hj) (hoff _ hj))).down hBS
  ·simp at hi
   by_cases he:i<d.length
   ·simp only[if_pos he]
    intro e;injection e with e
    exact hgne _ (hown.lt i he) (hown.off i he) e
   ·have hj:i-d.length<d2.length:=by omega
    simp only[if_neg he]
    intro e;injection e with e
    exact hgne _ (hown2.lt _ hj) (hoff _ hj) e
  ·simp at hj
   by_cases he:j<d.length
   ·simp only[if_pos he,if_pos (Nat.lt_trans hij he)]
    exact hown.asc i j hij he
   ·by_cases hi2:i<d.length
    ·simp only[if_neg he,if_pos hi2]
     exact hap i _ hi2 (by omega)
    ·simp only[if_neg he,if_neg hi2]
     exact hown2.asc _ _ (by omega) (by omega)
  ·simp at hi
   by_cases he:i<d.length
   ·simp only[if_pos he];have:=hown.lt i he;omega
   ·simp only[if_neg he];have:=hown2.lt (i-d.length) (by omega);omega
  ·refine(Below.refl B w).grown hg hB ?_
   intro k hk
   exact(World.ownsRow.lt hown.own k hk).1
structure MK(g0:Nat)(n:Nd)(gv cv:Nat)(z:List (Nd×Value))(r:Nat→Nat)(gu cu:Nat)(ks:List Int)(w:World):Prop where
 out:PT (g0+1) (.slice (some ⟨gv,0,none⟩) z.length cv) z r w
 kids:OwnI (g0+1) (.slice (some ⟨gu,0,none⟩) ks.length cu) ks w
 box:w.heap[g0]? =some (.cells #[.int .i64 n.k,.int .i64 n.op,.string n.s,.string n.t,.slice (some ⟨gu,0,none⟩) ks.length cu] 57 (0,0))
 ne:gv≠gu
 row:∀i,i<z.length→r i≠gu
 gt:∀i,i<z.length→g0<r i
theorem PT.kept{B q:Nat}{v:Value}{z:List (Nd×Value)}{r:Nat→Nat}{w w':World}(h:PT B v z r w)(hg:w.grownBy w' (some q))(hv:v.ownBlock≠some q)(hr:∀i,i<z.length→r i≠q):PT B v z r w':=by
 refine⟨World.ownsRow.kept h.own hg (.inr hv),fun i hi=>(h.kid i hi).keep (hg.block _ (h.lt i hi) (fun e=>by injection e with e;exact hr i hi e)),h.off,h.asc,fun i hi=>Nat.lt_of_lt_of_le (h.lt i hi) hg.size⟩
theorem OwnI.kept{B q:Nat}{v:Value}{l:List Int}{w w':World}(h:OwnI B v l w)(hg:w.grownBy w' (some q))(hv:v.ownBlock≠some q):OwnI B v l w':=World.ownsRow.kept h hg (.inr hv)
theorem grown_one(w:World)(g j:Nat)(u:Value):w.grownBy (w.setCell ⟨g,j,none⟩ u) (some g):=
 ⟨rfl,rfl,rfl,by simp,fun k _ hne=>heap_setCell_other w ⟨g,j,none⟩ k u (fun e=>hne (by rw[e]))⟩
section
variable {g0 gv cv gu cu:Nat} {n:Nd} {z z2:List (Nd×Value)} {r r2 r':Nat→Nat} {ks:List Int} {w w':World}
theorem MK.over(h:MK g0 n gv cv z r gu cu ks w)(hb:Below w.heap.size w w'):MK g0 n gv cv z r gu cu ks w':=
 ⟨h.out.keep hb (Nat.le_refl _),h.kids.keep hb (Nat.le_refl _),(hb.block g0 (lt_of_heap h.box)).trans h.box,h.ne,h.row,h.gt⟩
theorem MK.gu_lt(h:MK g0 n gv cv z r gu cu ks w):g0<gu∧gu<w.heap.size:=⟨(World.ownsRow.lt h.kids gu rfl).1,(World.ownsRow.lt h.kids gu rfl).2⟩
theorem MK.gv_lt(h:MK g0 n gv cv z r gu cu ks w):g0<gv∧gv<w.heap.size:=⟨(World.ownsRow.lt h.out.own gv rfl).1,(World.ownsRow.lt h.out.own gv rfl).2⟩
theorem MK.app{g c w0:Nat}(h:MK g0 n gv cv z r gu cu ks w)(hg:w.grownBy w' (some gv))(hp:PT (g0+1) (.slice (some ⟨g,0,none⟩) (z.length+z2.length) c) (z++z2) r' w')(hr:∀i,i<z.length→r' i=r i)(hr2:∀j,j<z2.length→r' (z.length+j)=r2 j)
  (hge:∀j,j<z2.length→w0≤r2 j) (hgu:gu<w0) (hor:gv=g∨w.heap.size≤g):MK g0 n g c (z++z2) r' gu cu ks w':=by
 have hu:=h.gu_lt
 have hv:=h.gv_lt
 have hrow:∀i,i<(z++z2).length→r' i≠gu∧g0<r' i:=fun i hi=>by
  simp at hi
  by_cases he:i<z.length
  ·rw[hr i he];exact⟨h.row i he,h.gt i he⟩
  ·obtain⟨j,rfl⟩:∃j,i=z.length+j:=⟨i-z.length,by omega⟩
   have hj:j<z2.length:=by omega
   have:=hge j hj
   rw[hr2 j hj]
   omega
 refine⟨by rw[List.length_append];exact hp,h.kids.kept hg (fun e=>by simp[Value.ownBlock]at e;exact h.ne e.symm), ?_, ?_,fun i hi=>(hrow i hi).1,fun i hi=>(hrow i hi).2⟩
 ·rw[hg.block g0 (by omega) (fun e=>by injection e with e;omega)];exact h.box
 ·rcases hor with e|e
  ·rw[←e];exact h.ne
  ·omega
theorem MK.kid{gu' cu':Nat}{x:Int}(h:MK g0 n gv cv z r gu cu ks w)(ho:OwnI (g0+1) (.slice (some ⟨gu',0,none⟩) (ks.length+1) cu') (ks++[x]) w')(hg:w.grownBy w' (some gu))(hor:gu=gu'∨w.heap.size≤gu'):
  MK g0 n gv cv z r gu' cu' (ks++[x]) (w'.setCell ⟨g0,4,none⟩ (.slice (some ⟨gu',0,none⟩) (ks.length+1) cu')):=by
 have hu:=h.gu_lt
 have hv:=h.gv_lt
 have hp:=(h.out.kept hg (fun e=>by simp[Value.ownBlock]at e;exact h.ne e) h.row).kept (grown_one w' g0 4 (.slice (some ⟨gu',0,none⟩) (ks.length+1) cu')) (fun e=>by simp[Value.ownBlock]at e;omega) (fun i hi=>by have:=h.gt i hi;omega)
 have hbox:w'.heap[g0]? =some (.cells #[.int .i64 n.k,.int .i64 n.op,.string n.s,.string n.t,.slice (some ⟨gu,0,none⟩) ks.length cu] 57 (0,0)):=by
  rw[hg.block g0 (by omega) (fun e=>by injection e with e;omega)];exact h.box
 refine⟨hp, ?_, ?_, ?_,fun i hi=> ?_,h.gt⟩
 ·rw[List.length_append];exact ownsRow_setCell_below ho (a:=⟨g0,4,none⟩) (Nat.lt_succ_self g0) _
 ·rw[List.length_append];exact heap_setCell_same w' g0 4 _ _ _ hbox
 ·rcases hor with e|e
  ·rw[←e];exact h.ne
  ·omega
 ·rcases hor with e|e
  ·rw[←e];exact h.row i hi
  ·have:=h.out.lt i hi;omega
end
def RelMk(g0:Nat)(W:World)(n:Nd)(ps:List (List Nd))(v k:Value)(wr:World):Prop:=
 ∃(J gv cv:Nat) (z:List (Nd×Value)) (r:Nat→Nat) (gu cu:Nat) (ks:List Int),J≤ps.length∧k= .int .i64 (J:Int)∧v= .slice (some ⟨gv,0,none⟩) z.length cv∧MK g0 n gv cv z r gu cu ks wr∧(z.map (·.1),ks)=makeGo (ps.take J) [] []∧Below g0 W wr
theorem sum_take(ps:List (List Nd)):∀J,sumL (ps.take J)≤sumL ps:=by
 induction ps with
 |nil=>intro J;simp[sumL]
 |cons q ps ih=>
  intro J
  cases J with
  |zero=>simp[sumL]
  |succ J=>simp only[List.take_succ_cons,sumL];have:=ih J;omega
theorem sum_get(ps:List (List Nd)):∀J (h:J<ps.length),sumL (ps.take J)+ps[J].length≤sumL ps:=by
 induction ps with
 |nil=>intro J h;simp at h
 |cons q ps ih=>
  intro J h
  cases J with
  |zero=>simp[sumL]
  |succ J=>
   simp only[List.take_succ_cons,sumL,List.getElem_cons_succ]
   have:=ih J (by simpa using h)
   omega
set_option maxRecDepth 20000 in
set_option maxHeartbeats 3200000 in
theorem make_any(n:Nd)(ps:List (List Nd))(a:Option Addr)(cap:Nat)(w:World)(hps:Parts w.heap.size w a ps)(hne:∀q∈ps,0<q.length)(hsum:sumL ps≤100000)(hlen:ps.length≤1000)(hk:∀q∈ps,∀t∈q,t.kids.length≤1048576):
  Calls Tryz.prog 129 #[.agg #[.int .i64 n.k,.int .i64 n.op,.string n.s,.string n.t,.slice none 0 0],.slice a ps.length cap] w (PgOut (makeT n ps) w):=by
 have HPS:=hid hps
 have HNE:=hid hne
 have HSUM:=hid hsum
 have HK:=hid hk
 clear hps hne hsum hk
 go_enter Tryz.func129,Tryz.ntmps129
 go_wp2
 obtain⟨g0,F⟩:∃g0,g0=w.heap.size:=⟨_,rfl⟩
 have K:=hid F
 have af:MK g0 n (g0+1) 0 [] (fun i=>i) (g0+1+1) 0 [] (((w.alloc (.cells #[.int .i64 n.k,.int .i64 n.op,.string n.s,.string n.t,.slice (some ⟨g0+1+1,0,none⟩) 0 0] 57)).alloc (.cells #[] 57)).alloc (.cells #[] 3)):=by
  have y:(w.alloc (.cells #[.int .i64 n.k,.int .i64 n.op,.string n.s,.string n.t,.slice (some ⟨g0+1+1,0,none⟩) 0 0] 57)).heap.size=g0+1:=by simp[F]
  have aa:((w.alloc (.cells #[.int .i64 n.k,.int .i64 n.op,.string n.s,.string n.t,.slice (some ⟨g0+1+1,0,none⟩) 0 0] 57)).alloc (.cells #[] 57)).heap.size=g0+1+1:=by simp[F]
  have h1:=PT.lit (B:=g0+1) (w:=w.alloc (.cells #[.int .i64 n.k,.int .i64 n.op,.string n.s,.string n.t,.slice (some ⟨g0+1+1,0,none⟩) 0 0] 57)) (by rw[y];exact Nat.le_refl _)
  rw[y]at h1
  have h2:=OwnI.lit (B:=g0+1) (w:=(w.alloc (.cells #[.int .i64 n.k,.int .i64 n.op,.string n.s,.string n.t,.slice (some ⟨g0+1+1,0,none⟩) 0 0] 57)).alloc (.cells #[] 57)) (by rw[aa];omega)
  rw[aa]at h2
  refine⟨h1.keep ((Below.refl _ _).alloc (Nat.le_refl _) _) (Nat.le_refl _),h2, ?_,by omega,fun i hi=>by simp at hi,fun i hi=>by simp at hi⟩
  rw[Below.heap_alloc _ _ _ (by rw[aa];omega),Below.heap_alloc _ _ _ (by rw[y];omega),F]
  exact heap_alloc_new w _
 have a1:=hid af
 have ai:=hid (below_three w (.cells #[.int .i64 n.k,.int .i64 n.op,.string n.s,.string n.t,.slice (some ⟨g0+1+1,0,none⟩) 0 0] 57) (.cells #[] 57) (.cells #[] 3))
 rw[←F]at ai⊢
 clear F af
 go_loopw [5,6] (fun v k wr=>RelMk g0 w n ps v k wr) (fun _ k _=>ps.length-(intOf k).toNat)
 case atStart=>exact⟨0,g0+1,0,[],_,g0+1+1,0,[],by omega,rfl,rfl,a1.out,rfl,ai.out⟩
 case round=>
  obtain⟨J,gv,cv,z,r,gu,cu,ks,hJ,rfl,rfl,hmk,hgo,hbel⟩:=hrel
  have HMK:=hid hmk
  have HB:=hid hbel
  have S:z.map (·.1)=(makeGo (ps.take J) [] []).1:=congrArg Prod.fst hgo
  have O:ks=(makeGo (ps.take J) [] []).2:=congrArg Prod.snd hgo
  have hzl:z.length=sumL (ps.take J):=by
   have:=congrArg List.length S
   rw[List.length_map,makeGo_len]at this
   simpa using this
  have hkl:ks.length=J:=by
   rw[O,makeGo_klen];simp;omega
  have y:=sum_take ps J
  have hzb:z.length≤100000:=by rw[hzl];exact Nat.le_trans y HSUM.out
  have ab:=hid S
  have ac:=hid O
  have HKL:=hid hkl
  have HZL:=hid hzl
  have hbox:=hmk.box
  have b4:wr.cell? ⟨g0,4,none⟩=some (.slice (some ⟨gu,0,none⟩) ks.length cu):=by rw[cell_of_row _ _ 4 _ _ _ hbox];rfl
  have ae:g0<wr.heap.size:=lt_of_heap hbox
  have HGW:=hid ae
  clear hmk hbel hgo S O hzl hkl y ae
  by_cases hlt:J<ps.length
  ·have hsg:=sum_get ps J hlt
   obtain⟨b,o,rfl,hb,hc⟩:=parts_at HPS.out hlt
   obtain⟨aj,cj,hcell,hlies⟩:=hc J hlt
   have hbg:b<g0:=by rw[K.out];exact hb
   have c0:=(HB.cell (p:=⟨b,o+J,none⟩) hbg).trans hcell
   have V:=HNE.out ps[J] (List.getElem_mem hlt)
   have HQK:=hid (HK.out ps[J] (List.getElem_mem hlt))
   have HTK:=hid (List.take_succ_eq_append_getElem hlt)
   obtain⟨q,hq⟩:∃q,q=ps[J]:=⟨_,rfl⟩
   rw[←hq]at c0 hlies V HQK HTK hsg
   have HLIES:=hid (show Lies w.heap.size wr aj q from hlies.keep HB.out (by rw[K.out];exact Nat.le_refl _))
   have hqz:z.length+q.length≤100000:=by rw[HZL.out];exact Nat.le_trans hsg HSUM.out
   have HQZ:=hid hqz
   have a5:=hid V
   have an:(J:Int)<(ps.length:Int):=by omega
   have a7:(0:Int)≤(J:Int):=by omega
   clear hq hc hcell hlies hsg hb hbg
   go_wp2_with fail
   refine(spec_shift2 q (z.length:Int) aj cj _ (by omega) HQK.out (HLIES.up (by have:=HGW.out;have:=K.out;omega))).mono ?_
   rintro e w2 ⟨v2,z2,r2,rfl,Y,X,b2,I⟩
   have G:z2.length=q.length:=by have:=congrArg List.length Y;simpa using this
   have M2:=hid (HMK.over b2)
   rcases X.tr with ⟨_,h0⟩|⟨g2,c2,rfl,hg2,_⟩
   ·rw[h0]at G;simp at G;omega
   have ad:0<z2.length:=by omega
   have hzz:z.length+z2.length≤1048576:=by omega
   have ag:g0+1≤w2.heap.size:=by have:=HGW.out;have:=b2.size;omega
   have hgS:g0+1≤wr.heap.size:=HGW.out
   have hap:∀i j,i<z.length→j<z2.length→r i≠r2 j:=fun i j hi hj=>by
    have:=HMK.out.out.lt i hi
    have:=I j hj
    omega
   have hoff:∀j,j<z2.length→(Value.slice (some ⟨gv,0,none⟩) z.length cv).ownBlock≠some (r2 j):=fun j hj e=>by
    have h1:=HMK.gv_lt.2
    have h2:=I j hj
    simp[Value.ownBlock]at e
    omega
   have av:=hid X
   have HGE:=hid I
   have a3:=hid ad
   have HZZ:=hid hzz
   have ay:=hid ag
   have HGS:=hid hgS
   have HAP:=hid hap
   have HOF:=hid hoff
   have ap:=hid Y
   have ar:=hid G
   have a2:=hid (HB.trans (b2.mono (Nat.le_of_lt HGW.out)))
   have HKB:=hid (show ks.length≤1048576 by rw[HKL.out];omega)
   have hzv:z.length+z2.length≤100000:=by omega
   clear X I ad hzz ag hgS hap hoff Y G hg2 b2 b4 hbox hqz V c0
   go_wp2_with (first|(refine wpList_append_pt _ rfl _ _ rfl (g0+1) wr.heap.size (.slice (some ⟨gv,0,none⟩) z.length cv) z r rfl M2.out.out g2 c2 z2 r2 av.out rfl a3.out HZZ.out ay.out HGS.out HAP.out HOF.out ?_;intro g3 c3 w3 r3 a0 Z P b3 au az;have M3:=hid (M2.app au a0 Z P HGE.out HMK.gu_lt.2 (az.imp (fun e=>by simpa [Value.ownBlock]using e) id));have x4:w3.cell? ⟨g0,4,none⟩=some (.slice (some ⟨gu,0,none⟩) ks.length cu):=cell4 M3.box;have aq:=hid (show g0+1≤w3.heap.size from lt_of_heap M3.box);have ao:=hid (a2.trans (b3.mono (Nat.le_succ g0))))|(refine wpList_append_int2 _ _ rfl _ _ rfl (g0+1) (.slice (some ⟨gu,0,none⟩) ks.length cu) ks rfl M3.kids rfl HKB.out aq.out ?_;intro g4 c4 w4 am b4 ax a4;have M4:=hid (M3.kid am ax (a4.imp (fun e=>by simpa [Value.ownBlock]using e) id));have ah:w4.heap[g0]? =some (.cells #[.int .i64 n.k,.int .i64 n.op,.string n.s,.string n.t,.slice (some ⟨gu,0,none⟩) ks.length cu] 57 (0,0)):=(b4.block g0 (Nat.lt_succ_self g0)).trans M3.box;have y4:w4.cell? ⟨g0,4,none⟩=some (.slice (some ⟨gu,0,none⟩) ks.length cu):=cell4 ah;have f4:w4.frozen? ⟨g0,4,none⟩=false:=frozen_of_row _ _ 4 _ _ ah))
   go_roundw
   case rel=>
    have hbe:=((ao.trans (b4.mono (Nat.le_succ g0))).setCell (p:=⟨g0,4,none⟩) (Nat.le_refl _) (.slice (some ⟨g4,0,none⟩) (ks.length+1) c4))
    have a6:(makeGo (ps.take J) [] []).1.length=z.length:=by rw[←ab.out,List.length_map]
    refine⟨J+1,g3,c3,z++z2,r3,g4,c4,_,by omega,by go_num,by rw[List.length_append],M4.out, ?_,hbe⟩
    rw[HTK.out,makeGo_snoc,List.map_append,ap.out,←ab.out,←ac.out,List.length_map]
    refine Prod.ext rfl ?_
    refine congrArg (fun x=>ks++[x]) ?_
    rw[List.length_append,List.length_map,List.length_map,ar.out]
    omega
   case measure=>simp[intOf];omega
  ·obtain rfl:J=ps.length:=by omega
   have hkv:KidV (g0+1) wr gu (.slice (some ⟨gu,0,none⟩) ks.length cu) ks:=by
    rcases HMK.kids.blkM with ⟨h,_⟩|⟨g,c,h,hg,hb,hm⟩
    ·cases h
    ·injection h with h1 _ h3
     injection h1 with h1
     injection h1 with h1 _ _
     subst h1 h3
     exact .inr ⟨_,rfl,hb,hg,hm⟩
   have HKV:=hid (show KidV (g0+1) wr gu (.slice (some ⟨gu,0,none⟩) ks.length cu) ({n with kids:=ks}:Nd).kids from hkv)
   have HZB:=hid (show z.length≤1048576 by omega)
   have HGS:=hid (show g0+1≤wr.heap.size from HGW.out)
   have HGU:=hid HMK.gu_lt.2
   have HOF:=hid (show(Value.slice (some ⟨gv,0,none⟩) z.length cv).ownBlock≠some gu from fun e=>by simp[Value.ownBlock]at e;exact HMK.ne e)
   have b0:wr.cell? ⟨g0,0,none⟩=some (.int .i64 n.k):=by rw[cell_of_row _ _ 0 _ _ _ hbox];rfl
   have b1:wr.cell? ⟨g0,1,none⟩=some (.int .i64 n.op):=by rw[cell_of_row _ _ 1 _ _ _ hbox];rfl
   have b2:wr.cell? ⟨g0,2,none⟩=some (.string n.s):=by rw[cell_of_row _ _ 2 _ _ _ hbox];rfl
   have b3:wr.cell? ⟨g0,3,none⟩=some (.string n.t):=by rw[cell_of_row _ _ 3 _ _ _ hbox];rfl
   have an:¬(ps.length:Int)<(ps.length:Int):=by omega
   clear hkv hbox
   go_wp2_with (refine wpList_append_node _ ({n with kids:=ks}:Nd) _ rfl _ _ rfl (g0+1) (.slice (some ⟨gv,0,none⟩) z.length cv) z r gu rfl HMK.out.out rfl rfl HZB.out HGS.out HKV.out HMK.row HGU.out HOF.out ?_;intro v' r' w4 al aw Z P)
   go_ret
   have HG:=K.out
   refine⟨_,_,r',rfl, ?_,al.up (by omega),by rw[←HG];exact HB.trans (aw.mono (Nat.le_succ g0)),fun i hi=> ?_⟩
   rotate_left
   ·rw[←HG]
    simp at hi
    by_cases he:i<z.length
    ·rw[Z i he];exact Nat.le_of_lt (HMK.gt i he)
    ·rw[show i=z.length by omega,P];exact Nat.le_of_lt HMK.gu_lt.1
   rw[List.map_append,ab.out,List.take_length,ac.out,List.take_length]
   rfl
end Go.Proofs.YtnoagleifffkcaaGreatDoor.nd
