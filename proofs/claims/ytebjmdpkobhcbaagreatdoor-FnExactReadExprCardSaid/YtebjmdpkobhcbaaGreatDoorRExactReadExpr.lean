/-
  'laws.FnExactReadExpr' returns true at every text, and leaves it as it was: impl.ReadExpr and the model spec.ReadExpr give the same tree and the same fault, and the tree that impl.ReadExpr hands back lies in memory of its own: what is written into it stands through a second call. No condition.
-/
import Derived.Test.YtebjmdpkobhcbaaGreatDoorCards
import Derived.Test.YtebjmdpkobhcbaaGreatDoorTie
import Derived.Test.YtebjmdpkobhcbaaGreatDoorRGSp
import Derived.Test.YtebjmdpkobhcbaaGreatDoorRRw
import Derived.Test.YtebjmdpkobhcbaaGreatDoorRGMw
import Derived.Test.YtebjmdpkobhcbaaGreatDoorRGMt
import Derived.OpenVars
import Derived.Deep.DeepHandedRow
import Derived.Lib.SmallJoins
import Derived.Stop.LaidErr
namespace Go.Proofs.YtebjmdpkobhcbaaGreatDoor.lawReadExpr
open Lib (hid)
open Go.ChangeShapes Go.WideShapes Go.ChangeAt Go.RowKit
open Go.ChangeMaps (open_string shut_string)
open spell (Held held)
open nd mark
open pr (Bk ROut)
open pe (readF readO parse finish Out)
open ps (top)
set_option linter.unusedVariables false
theorem parse_small{l:List tk.Tk}{p:ps.Ps}{M:Nat}(hM:∀t∈l,t.s.size<=M):(parse l p).t.length<=400/\∀n∈(parse l p).t,n.kids.length<=6:=by
 have nil:([]:List Nd).length<=400/\∀n∈([]:List Nd),n.kids.length<=6:=⟨by simp,fun n hn=>by simp at hn⟩
 unfold parse
 split
 ·split
  ·next h=>
   obtain⟨-,h3,-⟩:=pe.toks_len h
   have hok:=pe.ex_ok (l:=l) hM (by omega) (l.length+1) p 0 (Nat.zero_le _)
   cases hr:pe.ex l (l.length+1) p 0 with
   |bad j=>exact nil
   |ok lv tg t j=>
    rw[hr]at hok
    unfold finish
    simp only
    split
    ·next h4=>exact⟨(pe.sf_ok h4).1,fun n hn=>(hok.2.2.2.2.2 n hn).1⟩
    ·exact nil
  ·exact nil
 ·exact nil
theorem read_small(s:ByteArray):(readF s).t.length<=400/\∀n∈(readF s).t,n.kids.length<=6:=by
 have nil:([]:List Nd).length<=400/\∀n∈([]:List Nd),n.kids.length<=6:=⟨by simp,fun n hn=>by simp at hn⟩
 obtain⟨h1,h2⟩:=pe.lexF_sz s
 unfold readF readO
 split
 ·split
  ·split
   ·exact nil
   ·exact parse_small h1
  ·exact nil
 ·exact nil
set_option maxHeartbeats 3200000 in
theorem walk(s:ByteArray)(w:World)(hs:s.size<=maxLen)(hh:Held w):
  Calls Tryz.prog 8 #[.string s] w fun e w'=>e= .returned (.bool true)/\Below w.heap.size w w':=by
 have HH:=hid hh
 clear hh
 by_cases hbig:1048576<s.size
 ·go_enter Tryz.func8,Tryz.ntmps8
  go_wp2
  go_ret
  exact⟨rfl,Below.refl _ _⟩
 have ac:s.size<=1048576:=by omega
 have hgt:decide (1048576<s.size)=false:=by rw[decide_eq_false_iff_not];exact hbig
 have hsm:=read_small s
 have HRS:=hid (fun W2=>qs.read_any s W2 ac)
 have HRI:=hid (fun W2 ai=>pr.impl_read s W2 ac ai)
 obtain⟨O,hO⟩:∃O,readF s=O:=⟨_,rfl⟩
 rw[hO]at hsm HRS HRI
 obtain⟨q,n,k,f⟩:=O
 unfold ROut at HRS HRI
 simp only at hsm HRS HRI
 have HQL:=hid hsm.1
 have am:=hid hsm.2
 have hqb:q.length<=1048576:=by have:=hsm.1;omega
 have HQK:=hid (show∀t∈q,t.kids.length<=1048576 from fun t ht=>by have:=hsm.2 t ht;omega)
 have J:=hid (show∀I,endM ((lens q).take I) 1<=6000000 from fun I=>by
  have:=end_few q I hsm.1 hsm.2
  rwa [show lens (q.take I)=(lens q).take I by simp[lens,List.map_take]]at this)
 have Z:=hid (show∀x∈lens q,x<=1048576 from fun x hx=>by
  obtain⟨t,ht,rfl⟩:=List.mem_map.1 hx
  exact HQK.out t ht)
 have HLN:=hid (show(lens q).length=q.length by simp[lens])
 obtain⟨m,hme⟩:∃m,m=endM (lens q) 1:=⟨_,rfl⟩
 have HME:=hid hme
 have zm:¬(m:Int)<0:=by omega
 have zz:((m:Int) !=(m:Int))=false:=by simp
 clear hbig hO hsm hme
 go_enter Tryz.func8,Tryz.ntmps8
 go_wp2_with fail
 refine(HRS.out _).mono ?_
 rintro e w1 ⟨v0,z0,r0,rfl,K,ab,b1⟩
 obtain⟨a0,c0,rfl,af⟩:=GO.of ab K
 obtain⟨W1,o⟩:∃W1,W1=w1.alloc (.cells #[.int .i64 k,.int .i64 f] 28):=⟨_,rfl⟩
 have X1:=hid (show Bk w1.heap.size #[.int .i64 k,.int .i64 f] 28 W1 by rw[o];exact Bk.new _ _ _)
 have L1:=hid (show Lies W1.heap.size W1 a0 q by rw[o];exact af.lies.on ((Below.refl _ _).alloc (Nat.le_refl _) _) (Nat.le_refl _))
 have B1:=hid (show Below w.heap.size w W1 by rw[o];exact b1.alloc b1.size _)
 have S1:=hid (show W1.heap.size=w1.heap.size+1 by rw[o];simp)
 have ap:=hid o
 clear b1 ab af K o
 go_wp2_with fail
 rw[<-ap.out]
 refine(HRI.out W1 (HH.below B1.out)).mono ?_
 rintro e w2 ⟨v1,z1,r1,rfl,U,ag,b2⟩
 obtain⟨a1,c1,rfl,N⟩:=GO.of ag U
 obtain⟨W2,y⟩:∃W2,W2=w2.alloc (.cells #[.int .i64 k,.int .i64 f] 28):=⟨_,rfl⟩
 have X2:=hid (show Bk w2.heap.size #[.int .i64 k,.int .i64 f] 28 W2 by rw[y];exact Bk.new _ _ _)
 have H:=hid (show Below W1.heap.size W1 W2 by rw[y];exact b2.alloc b2.size _)
 have O2:=hid (show GO W1.heap.size a1 c1 q W2 by rw[y];exact N.keep ((Below.refl _ _).alloc (Nat.le_refl _) _))
 have al:=hid y
 clear b2 ag N U y
 go_wp2_with fail
 rw[<-al.out]
 refine(eq_nodes q q _ _ _ _ _ hqb hqb HQK.out HQK.out O2.lies (L1.on H.out (Nat.le_refl _))).mono ?_
 rintro e w3 ⟨he,b3⟩
 rw[decide_eq_true rfl]at he
 subst he
 have G:=hid (H.trans (b3.mono H.size))
 have O3:=hid (O2.keep b3)
 have ak:=hid (X2.keep b3)
 have aq:=hid (X1.keep G.out)
 have x0:=aq.c2
 have y0:=ak.c2
 clear b3
 go_wp2_with fail
 refine(markt.eq_fault k f _).mono ?_
 rintro e w4 ⟨rfl,b4⟩
 have ao:=hid (G.trans (b4.mono G.size))
 have O4:=hid (O3.keep b4)
 clear b4 x0 y0
 go_wp2_with fail
 refine(mark_go O4.out HQL.out am.out).mono ?_
 rintro e w5 ⟨he,b5,l5,s5⟩
 rw[<-HME.out]at he
 subst he
 have Q:=hid (ao.trans b5)
 have L5:=hid l5
 clear b5 l5 s5
 go_wp2_with fail
 rw[<-HLN.out]
 refine(held_nodes a1 c1 (lens q) w5 J.out Z.out (by rw[HLN.out];exact hqb) L5.out).mono ?_
 rintro e w6 ⟨he,b6⟩
 rw[<-HME.out]at he
 subst he
 rw[HLN.out]
 have C:=hid (Q.trans (b6.mono Q.size))
 have L6:=hid (L5.on b6 (Nat.le_refl _))
 clear b6
 go_wp2_with fail
 refine(HRI.out w6 (HH.below (B1.trans (C.mono B1.size)))).mono ?_
 rintro e w7 ⟨v2,z2,r2,rfl,aa,V,b7⟩
 obtain⟨a2,c2,rfl,ad⟩:=GO.of V aa
 obtain⟨W7,A⟩:∃W7,W7=w7.alloc (.cells #[.int .i64 k,.int .i64 f] 28):=⟨_,rfl⟩
 have X7:=hid (show Bk w7.heap.size #[.int .i64 k,.int .i64 f] 28 W7 by rw[A];exact Bk.new _ _ _)
 have ae:=hid (show Below w6.heap.size w6 W7 by rw[A];exact b7.alloc b7.size _)
 have D:=hid (C.trans (ae.mono C.size))
 have O7:=hid (show Lies W7.heap.size W7 a2 q by rw[A];exact ad.lies.on ((Below.refl _ _).alloc (Nat.le_refl _) _) (Nat.le_refl _))
 have L7:=hid (L6.on ae.out (Nat.le_refl _))
 have ah:=hid A
 clear b7 V ad aa A
 go_wp2_with fail
 rw[<-ah.out]
 refine(eq_nodes q q _ _ _ _ _ hqb hqb HQK.out HQK.out O7.out (L1.on D.out (Nat.le_refl _))).mono ?_
 rintro e w8 ⟨he,b8⟩
 rw[decide_eq_true rfl]at he
 subst he
 have F:=hid (D.trans (b8.mono D.size))
 have an:=hid (X7.keep b8)
 have aj:=hid (X1.keep F.out)
 have L8:=hid (L7.on b8 (Nat.le_refl _))
 have x0:=aj.c2
 have y0:=an.c2
 clear b8
 go_wp2_with fail
 refine(markt.eq_fault k f _).mono ?_
 rintro e w9 ⟨rfl,b9⟩
 have P:=hid (F.trans (b9.mono F.size))
 have L9:=hid (L8.on b9 (Nat.le_refl _))
 clear b9 x0 y0
 go_wp2_with fail
 rw[<-HLN.out]
 refine(held_nodes a1 c1 (lens q) w9 J.out Z.out (by rw[HLN.out];exact hqb) L9.out).mono ?_
 rintro e wa ⟨he,ba⟩
 rw[<-HME.out]at he
 subst he
 rw[HLN.out]
 have Ba:=hid (B1.trans ((P.trans (ba.mono P.size)).mono B1.size))
 clear ba
 go_wp2
 go_ret
 exact⟨rfl,Ba.out⟩
end Go.Proofs.YtebjmdpkobhcbaaGreatDoor.lawReadExpr
namespace Go.Proofs.YtebjmdpkobhcbaaGreatDoor.lawReadExpr
open Go.ChangeShapes Go.WideShapes Go.ChangeAt Go.RowKit
open Go.ChangeMaps (open_string shut_string)
theorem own:ownKnob Tryz.prog.godebug=none:=by kernel_rfl
theorem laidOut:laidOutB Tryz.prog=true:=by kernel_rfl
set_option maxRecDepth 100000 in
theorem contract(H:Type)(enc:TypeId×Value->H)(W:World)(base:Nat)(args:Array Value)(ds gs:List (DataW H))(before:List MemPlace)
  (hval:∀(j:Nat) t v,Tryz.f8.params[j]? =some t->args[j]? =some v->Value.okWide Tryz.prog W .any base t v)
  (hW:DataW.Whole enc Tryz.prog Tryz.f8.params.toList Rows.fnExactReadExprSpec.vars false W args.toList ds gs before) (hL0:laidMetH Tryz.prog Rows.fnExactReadExprRow.laid W):
  Calls Tryz.prog 8 args W fun e W'=>∃v,e= .returned v/\Rows.fnExactReadExprSpec.post enc Tryz.prog Tryz.f8 false true false false W args v W':=by
 have hL:laidMet Tryz.prog Rows.fnExactReadExprRow.laid W:=hL0
 have hW':=hW
 obtain⟨p,q,o,hV,rfl,hfz,hnd⟩:=hW
 have hA:DataW.TrodAll enc Tryz.prog W 0 (fun _=>true) true Tryz.f8.params.toList args.toList ds p:=o
 rw[Tryz.params8]at hA hval
 obtain⟨v0,y,d0,A,p0,q0,hargs,rfl,rfl,h0,r0⟩:=trodAll_cons hA
 obtain⟨rfl,rfl,rfl⟩:=trodAll_nil r0
 obtain rfl:args= #[v0]:=by cases args;simp_all
 obtain⟨e0,e1,rfl⟩:∃e0 e1,gs=[e0,e1]:=by
  have hlen:=trodVars_len hV
  match gs,hlen with
  |[x0,x1],_=>exact⟨x0,x1,rfl⟩
 obtain⟨a0,rfl,rfl,rfl,w0⟩:=open_string Tryz.underlying9 (hval 0 9 v0 rfl rfl) h0
 clear o
 refine(walk a0 W w0 (spell.held hL)).mono fun e W' ⟨he,bel⟩=> ?_
 subst he
 exact⟨_,rfl,_,_,_,[],_,_,hW',trodAll_mk1 (shut_bool Tryz.underlying4 _),(trodAll_cons_mk (shut_string Tryz.underlying9 w0) trodAll_mk0),Below.trodVars laidOut bel (by kernel_rfl) hV,bel.frame _,fun h=>by cases h⟩
theorem laid_met(os:Os):laidMet Tryz.prog Rows.fnExactReadExprRow.laid ((laidWorld os).forCall (fun _ _=>0) ⟨#[],#[.string ⟨#[]⟩],[]⟩).memory:=
 laidMet_of_run' 8 (by kernel_rfl) (by kernel_rfl)
theorem reads(os:Os){H:Type}(enc:TypeId×Value->H):∃places,DataW.whole enc Tryz.prog ((laidWorld os).forCall (fun _ _=>0) ⟨#[],#[.string ⟨#[]⟩],[]⟩).memory Tryz.f8.params.toList Rows.fnExactReadExprSpec.vars false #[Value.string ⟨#[]⟩].toList 8=some ([.lit (.string [])],[Rows.laid_loop_example_g01543_impl_keywords,Rows.laid_loop_example_g01543_impl_operators],places):=
 ⟨MemPlace.row ⟨0,0,none⟩ 17++MemPlace.row ⟨1,0,none⟩ 39,by kernel_rfl⟩
set_option maxRecDepth 100000 in
theorem lifted(os:Os)(started:os.Started)(H:Type)(enc:TypeId×Value->H)(F:Stop.Interp):
  ReturnsInHanded {} Tryz.checked os 8 .any ((OpenSpec.ofChange Rows.fnExactReadExprSpec).preRow enc Tryz.prog Tryz.f8 Rows.fnExactReadExprRow.domain false Rows.fnExactReadExprRow.laid) (((OpenSpec.ofChange Rows.fnExactReadExprSpec).at F).post enc Tryz.prog Tryz.f8 false true false false):=by
 obtain⟨places,hx⟩:=reads os enc
 refine returnsInHanded_of_row (C:=Tryz.checked) (s:=OpenSpec.ofChange Rows.fnExactReadExprSpec) own started (by kernel_rfl) Tryz.func8
  (witness_row_at (enc:=enc) (C:=Tryz.checked) false (laidWorld os) #[.string ⟨#[]⟩] rfl (by kernel_rfl) (by kernel_rfl) (by kernel_rfl)
   (OpenSpec.preRow_of_cond 8 hx (by kernel_rfl) (fun k hk=>by cases hk) (by kernel_rfl) (laid_met os))) ?_
 intro W base args ds gs before hval hW _ _ _ hL _ _
 exact contract H enc W base args ds gs before hval hW hL
theorem said:Rows.FnExactReadExprSaid:=
 OpenClaim.holds_of_cond 8 Tryz.f8 rfl rfl rfl rfl rfl rfl rfl ⟨rfl,rfl,rfl,rfl,rfl⟩ rfl rfl rfl rfl rfl (by kernel_rfl) Tryz.func8 (by kernel_rfl)
  (of_decide_eq_true (by kernel_rfl)) (by unfold Func.isWrapper;first|(rw[if_pos (by decide+kernel)];kernel_rfl)|(rw[if_neg (by decide+kernel)];exact⟨rfl,rfl⟩))
  (fun os started H enc _ F=>by rw[OpenClaim.pre_eq_preRow];exact lifted os started H enc F)
theorem plain(f:FuncId)(fn:Func)(hf:Tryz.pinned.checked.prog.funcNamed "loop.example/g01543/laws.FnExactReadExpr"=some f)(hfn:Tryz.pinned.checked.prog.funcs[f]? =some fn):
  Rows.fnExactReadExprCard.stood.looks=Tryz.pinned.checked.prog.looks []/\∀(j:Nat) t,fn.params[j]? =some t->Tryz.pinned.checked.prog.wantsStandIn t=false:=by
 obtain rfl:f=8:=Option.some.inj ((show Tryz.prog.funcNamed "loop.example/g01543/laws.FnExactReadExpr"=some 8 by kernel_rfl).symm.trans hf)|>.symm
 obtain rfl:fn=Tryz.f8:=(Option.some.inj (Tryz.func8.symm.trans hfn)).symm
 refine⟨by kernel_rfl,fun j t ht=> ?_⟩
 rw[Tryz.params8]at ht
 have hm:=Array.mem_of_getElem? ht
 simp only[List.mem_toArray,List.mem_cons,List.not_mem_nil,or_false]at hm
 rcases hm with rfl
 ·exact(show Tryz.prog.wantsStandIn 9=false by kernel_rfl)
end Go.Proofs.YtebjmdpkobhcbaaGreatDoor.lawReadExpr
namespace Go.Proofs.YtebjmdpkobhcbaaGreatDoor
theorem fnExactReadExpr_card:Rows.FnExactReadExprCardSaid:=
 Claim7.holds_tied_plain_at .later [] _ _ _ _ lawReadExpr.said (fun _ h=>by cases h) (by kernel_rfl) (fun _ h=>by cases h) fnExactReadExpr_row_tie rfl ⟨rfl,rfl⟩ (by kernel_rfl) rfl lawReadExpr.plain (by kernel_rfl)
end Go.Proofs.YtebjmdpkobhcbaaGreatDoor
