/-
  'laws.FnExactParseExpr' returns true at every list of tokens and every position, and leaves them as they were: impl.ParseExpr and the model spec.ParseExpr give the same tree, the same number of tokens and the same fault, and the tree that impl.ParseExpr hands back lies in memory of its own: what is written into it, and into the tokens, stands through a second call. No condition.
-/
import Derived.Test.YtebjmdpkobhcbaaGreatDoorZGSp
import Derived.Test.YtebjmdpkobhcbaaGreatDoorZKaExactParseExpr
import Derived.Test.YtebjmdpkobhcbaaGreatDoorZKbExactParseExpr
import Derived.Test.YtebjmdpkobhcbaaGreatDoorZExactParseExprW
import Derived.Test.YtebjmdpkobhcbaaGreatDoorZOpenTk
import Derived.Test.YtebjmdpkobhcbaaGreatDoorCards
import Derived.Test.YtebjmdpkobhcbaaGreatDoorTie
import Derived.OpenVars
import Derived.Deep.DeepHandedRow
import Derived.Laws.StructEq
import Derived.Lib.SmallJoins
import Derived.Stop.LaidErr
namespace Go.Proofs.YtebjmdpkobhcbaaGreatDoor.lawParseExpr
open Go.ChangeShapes Go.WideShapes Go.ChangeAt Go.RowKit
open Go.ChangeMaps (open_string shut_string)
open spell (Held held)
set_option linter.unusedVariables false
set_option linter.unusedSimpArgs false
theorem own:ownKnob Tryz.prog.godebug=none:=by kernel_rfl
theorem laidOut:laidOutB Tryz.prog=true:=by kernel_rfl
set_option maxRecDepth 100000 in
theorem contract(H:Type)(enc:TypeId×Value→H)(W:World)(base:Nat)(args:Array Value)(ds gs:List (DataW H))(before:List MemPlace)
  (hval:∀(j:Nat) t v,Tryz.f7.params[j]? =some t→args[j]? =some v→Value.okWide Tryz.prog W .any base t v)
  (hW:DataW.Whole enc Tryz.prog Tryz.f7.params.toList Rows.fnExactParseExprSpec.vars false W args.toList ds gs before) (hL0:laidMetH Tryz.prog Rows.fnExactParseExprRow.laid W):
  Calls Tryz.prog 7 args W fun e W'=>∃v,e= .returned v∧Rows.fnExactParseExprSpec.post enc Tryz.prog Tryz.f7 false true false false W args v W':=by
 have hL:laidMet Tryz.prog Rows.fnExactParseExprRow.laid W:=hL0
 have hW':=hW
 obtain⟨p,q,o,hV,rfl,hfz,hnd⟩:=hW
 have hA:DataW.TrodAll enc Tryz.prog W 0 (fun _=>true) true Tryz.f7.params.toList args.toList ds p:=o
 rw[Tryz.params7]at hA hval
 obtain⟨v0,Q,d0,O,p0,q0,hargs,rfl,rfl,h0,r0⟩:=trodAll_cons hA
 obtain⟨v1,U,d1,N,p1,q1,rfl,rfl,rfl,h1,r1⟩:=trodAll_cons r0
 obtain⟨rfl,rfl,rfl⟩:=trodAll_nil r1
 obtain rfl:args= #[v0,v1]:=by cases args;simp_all
 obtain⟨e0,e1,rfl⟩:∃e0 e1,gs=[e0,e1]:=by
  have hlen:=trodVars_len hV
  match gs,hlen with
  |[x0,x1],_=>exact⟨x0,x1,rfl⟩
 have k0:=h0
 have K:=tk.places_lt k0
 obtain⟨c0,C,a0,rfl,n0,w0,m0⟩:=tk.open_toks (hval 0 48 v0 rfl rfl) h0
 have k1:=h1
 have J:=nd.places_lt k1
 obtain⟨A,y,D,F,G,rfl⟩:=ps.open_pos (hval 1 49 v1 rfl rfl) h1
 clear o
 refine(walk a0 c0 C A y D F G W w0 n0 m0 (spell.held hL)).mono fun e W' ⟨he,bel⟩=> ?_
 subst he
 exact⟨_,rfl,_,_,_,[],_,_,hW',trodAll_mk1 (shut_bool Tryz.underlying4 _),(trodAll_cons_mk (Below.trod laidOut (by kernel_rfl) (of_decide_eq_true (by kernel_rfl)) k0 bel K) (trodAll_cons_mk (Below.trod laidOut (by kernel_rfl) (of_decide_eq_true (by kernel_rfl)) k1 bel J) trodAll_mk0)),Below.trodVars laidOut bel (by kernel_rfl) hV,bel.frame _,fun h=>by cases h⟩
theorem laid_met(os:Os):laidMet Tryz.prog Rows.fnExactParseExprRow.laid ((laidWorld os).forCall (fun _ _=>0) ⟨#[],#[.slice none 0 0,.agg #[.int .i64 0,.bool false,.bool false,.bool false,.bool false]],[]⟩).memory:=
 laidMet_of_run' 8 (by kernel_rfl) (by kernel_rfl)
theorem reads(os:Os){H:Type}(enc:TypeId×Value→H):∃places,DataW.whole enc Tryz.prog ((laidWorld os).forCall (fun _ _=>0) ⟨#[],#[.slice none 0 0,.agg #[.int .i64 0,.bool false,.bool false,.bool false,.bool false]],[]⟩).memory Tryz.f7.params.toList Rows.fnExactParseExprSpec.vars false #[Value.slice none 0 0,.agg #[.int .i64 0,.bool false,.bool false,.bool false,.bool false]].toList 8=some ([.nil,.agg [.lit (.int .i64 0),.lit (.bool false),.lit (.bool false),.lit (.bool false),.lit (.bool false)]],[Rows.laid_loop_example_g01543_impl_keywords,Rows.laid_loop_example_g01543_impl_operators],places):=
 ⟨MemPlace.row ⟨0,0,none⟩ 17++MemPlace.row ⟨1,0,none⟩ 39,by kernel_rfl⟩
set_option maxRecDepth 100000 in
theorem lifted(os:Os)(started:os.Started)(H:Type)(enc:TypeId×Value→H)(F:Stop.Interp):
  ReturnsInHanded {} Tryz.checked os 7 .any ((OpenSpec.ofChange Rows.fnExactParseExprSpec).preRow enc Tryz.prog Tryz.f7 Rows.fnExactParseExprRow.domain false Rows.fnExactParseExprRow.laid) (((OpenSpec.ofChange Rows.fnExactParseExprSpec).at F).post enc Tryz.prog Tryz.f7 false true false false):=by
 obtain⟨places,hx⟩:=reads os enc
 refine returnsInHanded_of_row (C:=Tryz.checked) (s:=OpenSpec.ofChange Rows.fnExactParseExprSpec) own started (by kernel_rfl) Tryz.func7
  (witness_row_at (enc:=enc) (C:=Tryz.checked) false (laidWorld os) #[.slice none 0 0,.agg #[.int .i64 0,.bool false,.bool false,.bool false,.bool false]] rfl (by kernel_rfl) (by kernel_rfl) (by kernel_rfl)
   (OpenSpec.preRow_of_cond 8 hx (by kernel_rfl) (fun k hk=>by cases hk) (by kernel_rfl) (laid_met os))) ?_
 intro W base args ds gs before hval hW _ _ _ hL _ _
 exact contract H enc W base args ds gs before hval hW hL
theorem said:Rows.FnExactParseExprSaid:=
 OpenClaim.holds_of_cond 7 Tryz.f7 rfl rfl rfl rfl rfl rfl rfl ⟨rfl,rfl,rfl,rfl,rfl⟩ rfl rfl rfl rfl rfl named Tryz.func7 closed
  (of_decide_eq_true (by kernel_rfl)) (by unfold Func.isWrapper;first|(rw[if_pos (by decide+kernel)];kernel_rfl)|(rw[if_neg (by decide+kernel)];exact⟨rfl,rfl⟩))
  (fun os started H enc _ F=>by rw[OpenClaim.pre_eq_preRow];exact lifted os started H enc F)
theorem plain(f:FuncId)(fn:Func)(hf:Tryz.pinned.checked.prog.funcNamed "loop.example/g01543/laws.FnExactParseExpr"=some f)(hfn:Tryz.pinned.checked.prog.funcs[f]? =some fn):
  Rows.fnExactParseExprCard.stood.looks=Tryz.pinned.checked.prog.looks []∧∀(j:Nat) t,fn.params[j]? =some t→Tryz.pinned.checked.prog.wantsStandIn t=false:=by
 obtain rfl:f=7:=Option.some.inj ((show Tryz.prog.funcNamed "loop.example/g01543/laws.FnExactParseExpr"=some 7 by kernel_rfl).symm.trans hf)|>.symm
 obtain rfl:fn=Tryz.f7:=(Option.some.inj (Tryz.func7.symm.trans hfn)).symm
 refine⟨by kernel_rfl,fun j t ht=> ?_⟩
 rw[Tryz.params7]at ht
 have hm:=Array.mem_of_getElem? ht
 simp only[List.mem_toArray,List.mem_cons,List.not_mem_nil,or_false]at hm
 rcases hm with rfl|rfl
 ·exact(show Tryz.prog.wantsStandIn 48=false by kernel_rfl)
 ·exact(show Tryz.prog.wantsStandIn 49=false by kernel_rfl)
end Go.Proofs.YtebjmdpkobhcbaaGreatDoor.lawParseExpr
namespace Go.Proofs.YtebjmdpkobhcbaaGreatDoor
theorem fnExactParseExpr_card:Rows.FnExactParseExprCardSaid:=
 Claim7.holds_tied_plain_at .later [] _ _ _ _ lawParseExpr.said (fun _ h=>by cases h) (by kernel_rfl) (fun _ h=>by cases h) fnExactParseExpr_row_tie rfl ⟨rfl,rfl⟩ lawParseExpr.mainis rfl lawParseExpr.plain lawParseExpr.goes
end Go.Proofs.YtebjmdpkobhcbaaGreatDoor
