/-
  'laws.FnDeep' returns true at every slice of bytes, and leaves it as it was. A name in up to MaxOpen pairs of parentheses is read as the name; with more of them FtDeep lies at the first that is too many. No condition.
-/
import Derived.Test.YtebjmdpkobhcbaaGreatDoorCards
import Derived.Test.YtebjmdpkobhcbaaGreatDoorTie
import Derived.Test.YtebjmdpkobhcbaaGreatDoorDGSp
import Derived.Test.YtebjmdpkobhcbaaGreatDoorDGDa
import Derived.Test.YtebjmdpkobhcbaaGreatDoorDGPj
import Derived.Test.YtebjmdpkobhcbaaGreatDoorDDeepMath
import Derived.OpenVars
import Derived.Deep.DeepHandedRow
import Derived.Deep.RegionHeld3
import Derived.Laws.StructEq
import Derived.Lib.SmallJoins
import Derived.Stop.LaidErr
namespace Go.Proofs.YtebjmdpkobhcbaaGreatDoor.lawDeep
open Lib (hid)
open Go.ChangeShapes Go.WideShapes Go.ChangeAt Go.RowKit
open spell (Held held)
open nd (Nd PT)
open draw (IsRow)
open pe (readF)
open pr (ROut impl_read)
set_option linter.unusedVariables false
set_option linter.unusedSimpArgs false
set_option maxRecDepth 20000
def RelP(N:Nat)(s i:Value)(W wr:World):Prop:=∃I:Nat,I≤N∧i= .int .i64 (I:Int)∧s= .string (pw I)∧wr=W
def RelQ(N:Nat)(t i:Value)(W wr:World):Prop:=∃I:Nat,I≤N∧i= .int .i64 (I:Int)∧t= .string (qw N I)∧wr=W
theorem pw_size(I:Nat):(pw I).size=I:=by
 induction I with
 |zero=>rfl
 |succ I ih=>rw[pw,ByteArray.size_append,ih];rfl
theorem qw_size(n J:Nat):(qw n J).size=n+1+J:=by
 induction J with
 |zero=>rw[qw,ByteArray.size_append,pw_size];rfl
 |succ J ih=>rw[qw,ByteArray.size_append,ih];rfl
set_option maxHeartbeats 3200000 in
theorem core{a:Option Addr}{len cap:Nat}{zs:List Int}{w:World}(hc:draw.Code w.heap.size w a len zs)(hl:len≤1048576)(hh:Held w):
  Calls Tryz.prog 5 #[.slice a len cap] w fun e w'=>e= .returned (.bool true)∧Below w.heap.size w w':=by
 have hbig:decide (1048576<len)=false:=by simp;omega
 have HAT:=hid (draw.at_code (cap:=cap) 0 (by omega) w hc hl)
 have HH:=hid hh
 clear hc hh
 go_enter Tryz.func5,Tryz.ntmps5
 go_wp2_with fail
 refine(draw.big_any a len cap _ (by omega)).mono ?_
 rw[hbig]
 rintro e w1 ⟨rfl,rfl⟩
 go_wp2_with fail
 refine HAT.mono ?_
 rintro e w2 ⟨⟨X,hX,rfl⟩,rfl⟩
 obtain⟨N,hN⟩:∃N:Nat,N=37+X%8:=⟨_,rfl⟩
 have e1:(X:Int).tmod 8=(N:Int)-37:=by rw[Int.tmod_eq_emod_of_nonneg (by omega)];omega
 have e2:(X:Int)%8=(N:Int)-37:=by omega
 have e3:(37:Int)+((N:Int)-37)=(N:Int):=by omega
 have HR:=hid (show right N=true by
  have h:=rights
  rw[List.all_eq_true]at h
  rw[hN]
  exact h (X%8) (List.mem_range.2 (by omega)))
 have K:N≤44:=by omega
 have H:37≤N:=by omega
 clear hX hN
 go_wp2
 go_loopw [4,5] (fun s i wr=>RelP N s i w wr) (fun _ i _=>N-(intOf i).toNat)
 case atStart=>exact⟨0,by omega,rfl,rfl,rfl⟩
 case round=>
  obtain⟨I,hI,rfl,rfl,rfl⟩:=hrel
  by_cases hlt:I<N
  ·have C:(I:Int)<(N:Int):=by omega
   have hps:=pw_size I
   have hpb:(pw I).size≤1000:=by omega
   go_wp2
   exact⟨⟨I+1,by omega,by go_num,rfl,rfl⟩,by simp[intOf];omega⟩
  ·obtain rfl:I=N:=by omega
   have C:¬(I:Int)<(I:Int):=by omega
   have hps:=pw_size I
   have hpb:(pw I).size≤1000:=by omega
   clear hlt hI
   go_wp2
   go_loopw [6,7] (fun s i wr'=>RelQ I s i wr wr') (fun _ i _=>I-(intOf i).toNat)
   case atStart=>exact⟨0,by omega,rfl,rfl,rfl⟩
   case round=>
    obtain⟨J,hJ,rfl,rfl,rfl⟩:=hrel
    have hqs:=qw_size I J
    have hqb:(qw I J).size≤1000:=by omega
    by_cases hlt:J<I
    ·have D:(J:Int)<(I:Int):=by omega
     go_wp2
     exact⟨⟨J+1,by omega,by go_num,rfl,rfl⟩,by simp[intOf];omega⟩
    ·obtain rfl:J=I:=by omega
     have D:¬(J:Int)<(J:Int):=by omega
     have hr:=HR.out
     unfold right at hr
     rw[Bool.and_eq_true,decide_eq_true_eq]at hr
     obtain⟨hsz,hr⟩:=hr
     have HRD:=hid (fun w2 F=>impl_read (qw J J) w2 hsz F)
     obtain⟨O,hO⟩:∃O,readF (qw J J)=O:=⟨_,rfl⟩
     rw[hO]at HRD hr
     obtain⟨S,hS⟩:∃S,qw J J=S:=⟨_,rfl⟩
     rw[hS]at HRD⊢
     clear hO hsz hlt hJ hS hqs hqb hps hpb
     go_wp2_with fail
     refine(HRD.out _ HH.out).mono ?_
     rintro e w1 ⟨v1,z1,r1,rfl,m,u,b1⟩
     obtain⟨a1,c1,rfl⟩:=u.form
     obtain⟨ot,on,ok,oa⟩:=O
     simp only at hr m⊢
     obtain⟨W1,f⟩:∃W1,W1=w1.alloc (.cells #[.int .i64 ok,.int .i64 oa] 28):=⟨_,rfl⟩
     have X1:=hid (show pr.Bk w1.heap.size #[.int .i64 ok,.int .i64 oa] 28 W1 by rw[f];exact pr.Bk.new _ _ _)
     have B1:=hid (show Below _ _ W1 by rw[f];exact b1.alloc b1.size _)
     have L1:nd.Lies W1.heap.size W1 a1 ot:=by rw[f,←m];exact u.lies.on ((Below.refl _ _).alloc (Nat.le_refl _) _) (Nat.le_refl _)
     have hzl:z1.length=ot.length:=by rw[←m,List.length_map]
     rw[hzl]
     have x0:=X1.c2
     clear b1 u m hzl
     by_cases h40:40<J
     ·rw[if_pos h40,Bool.and_eq_true,decide_eq_true_eq,beq_iff_eq]at hr
      obtain⟨⟨rfl,rfl⟩,j⟩:=hr
      rw[j]
      have G:(40:Int)<(J:Int):=by omega
      rw[f]at x0
      clear L1
      go_wp2
      rw[←f]
      go_ret
      exact⟨rfl,B1.out⟩
     ·rw[if_neg h40,Bool.and_eq_true,Bool.and_eq_true,decide_eq_true_eq,beq_iff_eq,beq_iff_eq]at hr
      obtain⟨rfl,j,B⟩:=hr
      rw[j]
      have G:¬(40:Int)<(J:Int):=by omega
      obtain⟨n0,rfl⟩:∃n0,ot=[n0]:=by
       cases ot with
       |nil=>simp at j
       |cons x ys=>
        cases ys with
        |nil=>exact⟨x,rfl⟩
        |cons y zs=>simp at j
      have A:n0.s=⟨#[120]⟩:=by
       have h:n0.s.toList=[120]:=B
       rw[ByteArray.toList_eq]at h
       cases hn:n0.s with
       |mk dat=>
        rw[hn]at h
        congr
        exact Array.toList_inj.mp h
      rcases L1 with L1|⟨b,o,rfl,hlt,hat⟩
      ·simp at L1
      ·have d:=hat 0 (by simp)
       rw[Nat.zero_mul,Nat.add_zero]at d
       obtain⟨aK,cK,⟨d0,d1,d2,d3,d4⟩,-⟩:=d
       rw[show([n0][0]).s=⟨#[120]⟩from A]at d2
       rw[f]at x0 d2
       clear hat A d0 d1 d3 d4
       go_wp2
       rw[←f]
       go_ret
       exact⟨rfl,B1.out⟩
theorem walk(a:Option Addr)(len cap:Nat)(zs:List Int)(w:World)(hz:draw.IsRow .u8 w a len cap zs)(hh:Held w):
  Calls Tryz.prog 5 #[.slice a len cap] w fun e w'=>e= .returned (.bool true)∧Below w.heap.size w w':=by
 have hlm:len≤maxLen:=by
  rcases hz with ⟨_,rfl,_,_⟩|⟨x,_,hl,hm,_⟩
  ·exact Nat.zero_le _
  ·exact Nat.le_trans hl hm
 unfold maxLen at hlm
 by_cases hl:len≤1048576
 ·exact core (draw.code_of hz) hl hh
 ·have hbig:decide (1048576<len)=true:=by simp;omega
  clear hz
  go_enter Tryz.func5,Tryz.ntmps5
  go_wp2_with fail
  refine(draw.big_any a len cap _ (by omega)).mono ?_
  rw[hbig]
  rintro e w1 ⟨rfl,rfl⟩
  go_wp2
  go_ret
  exact⟨rfl,Below.refl _ _⟩
end Go.Proofs.YtebjmdpkobhcbaaGreatDoor.lawDeep
namespace Go.Proofs.YtebjmdpkobhcbaaGreatDoor.lawDeep
open Go.ChangeShapes Go.WideShapes Go.ChangeAt Go.RowKit
open Go.ChangeMaps (open_string shut_string)
open draw (IsRow)
theorem own:ownKnob Tryz.prog.godebug=none:=by kernel_rfl
theorem laidOut:laidOutB Tryz.prog=true:=by kernel_rfl
set_option maxRecDepth 100000 in
theorem contract(H:Type)(enc:TypeId×Value→H)(W:World)(base:Nat)(args:Array Value)(ds gs:List (DataW H))(before:List MemPlace)
  (hval:∀(j:Nat) t v,Tryz.f5.params[j]? =some t→args[j]? =some v→Value.okWide Tryz.prog W .any base t v)
  (hW:DataW.Whole enc Tryz.prog Tryz.f5.params.toList Rows.fnDeepSpec.vars false W args.toList ds gs before) (hL0:laidMetH Tryz.prog Rows.fnDeepRow.laid W):
  Calls Tryz.prog 5 args W fun e W'=>∃v,e= .returned v∧Rows.fnDeepSpec.post enc Tryz.prog Tryz.f5 false true false false W args v W':=by
 have hL:laidMet Tryz.prog Rows.fnDeepRow.laid W:=hL0
 have hW':=hW
 obtain⟨p,q,o,hV,rfl,hfz,hnd⟩:=hW
 have hA:DataW.TrodAll enc Tryz.prog W 0 (fun _=>true) true Tryz.f5.params.toList args.toList ds p:=o
 rw[Tryz.params5]at hA hval
 obtain⟨v0,A,d0,B,p0,q0,hargs,rfl,rfl,h0,r0⟩:=trodAll_cons hA
 obtain⟨rfl,rfl,rfl⟩:=trodAll_nil r0
 obtain rfl:args= #[v0]:=by cases args;simp_all
 obtain⟨e0,e1,rfl⟩:∃e0 e1,gs=[e0,e1]:=by
  have hlen:=trodVars_len hV
  match gs,hlen with
  |[x0,x1],_=>exact⟨x0,x1,rfl⟩
 obtain⟨a0,f,u,rfl⟩:=okWide_slice Tryz.underlying22 (hval 0 22 v0 rfl rfl)
 have k0:=h0
 have y:∀x∈p0,x.block<W.heap.size:=by obtain⟨m,hm⟩:=k0;exact DataW.trod_lt m _ _ _ hm
 obtain⟨z0,w0⟩:∃zs,IsRow .u8 W a0 f u zs:=by
  obtain⟨fuel,hf⟩:=h0
  rcases open_ints Tryz.underlying22 Tryz.underlying5 (by kernel_rfl) hf with ⟨hcs,_⟩|⟨x,l,c,zs,hcs,_,hl,hm,hz,_,hcell,hwz⟩
  ·simp[Value.cells]at hcs
   obtain⟨rfl,rfl,rfl⟩:=hcs
   exact⟨[],.inl ⟨rfl,rfl,rfl,rfl⟩⟩
  ·simp[Value.cells]at hcs
   obtain⟨rfl,rfl,rfl⟩:=hcs
   exact⟨zs,.inr ⟨_,rfl,hl,hm,by simpa using hz,hcell,hwz⟩⟩
 clear o
 refine(walk a0 f u z0 W w0 (spell.held hL)).mono fun e W' ⟨he,bel⟩=> ?_
 subst he
 exact⟨_,rfl,_,_,_,[],_,_,hW',trodAll_mk1 (shut_bool Tryz.underlying4 _),(trodAll_cons_mk (Below.trod laidOut (by kernel_rfl) (of_decide_eq_true (by kernel_rfl)) k0 bel y) trodAll_mk0),Below.trodVars laidOut bel (by kernel_rfl) hV,bel.frame _,fun h=>by cases h⟩
theorem laid_met(os:Os):laidMet Tryz.prog Rows.fnDeepRow.laid ((laidWorld os).forCall (fun _ _=>0) ⟨#[],#[.slice none 0 0],[]⟩).memory:=
 laidMet_of_run' 8 (by kernel_rfl) (by kernel_rfl)
theorem reads(os:Os){H:Type}(enc:TypeId×Value→H):∃places,DataW.whole enc Tryz.prog ((laidWorld os).forCall (fun _ _=>0) ⟨#[],#[.slice none 0 0],[]⟩).memory Tryz.f5.params.toList Rows.fnDeepSpec.vars false #[Value.slice none 0 0].toList 8=some ([.nil],[Rows.laid_loop_example_g01543_impl_keywords,Rows.laid_loop_example_g01543_impl_operators],places):=
 ⟨MemPlace.row ⟨0,0,none⟩ 17++MemPlace.row ⟨1,0,none⟩ 39,by kernel_rfl⟩
set_option maxRecDepth 100000 in
theorem lifted(os:Os)(started:os.Started)(H:Type)(enc:TypeId×Value→H)(F:Stop.Interp):
  ReturnsInHanded {} Tryz.checked os 5 .any ((OpenSpec.ofChange Rows.fnDeepSpec).preRow enc Tryz.prog Tryz.f5 Rows.fnDeepRow.domain false Rows.fnDeepRow.laid) (((OpenSpec.ofChange Rows.fnDeepSpec).at F).post enc Tryz.prog Tryz.f5 false true false false):=by
 obtain⟨places,hx⟩:=reads os enc
 refine returnsInHanded_of_row (C:=Tryz.checked) (s:=OpenSpec.ofChange Rows.fnDeepSpec) own started (by kernel_rfl) Tryz.func5
  (witness_row_at (enc:=enc) (C:=Tryz.checked) false (laidWorld os) #[.slice none 0 0] rfl (by kernel_rfl) (by kernel_rfl) (by kernel_rfl)
   (OpenSpec.preRow_of_cond 8 hx (by kernel_rfl) (fun k hk=>by cases hk) (by kernel_rfl) (laid_met os))) ?_
 intro W base args ds gs before hval hW _ _ _ hL _ _
 exact contract H enc W base args ds gs before hval hW hL
theorem said:Rows.FnDeepSaid:=
 OpenClaim.holds_of_cond 5 Tryz.f5 rfl rfl rfl rfl rfl rfl rfl ⟨rfl,rfl,rfl,rfl,rfl⟩ rfl rfl rfl rfl rfl (by kernel_rfl) Tryz.func5 (by kernel_rfl)
  (of_decide_eq_true (by kernel_rfl)) (by unfold Func.isWrapper;first|(rw[if_pos (by decide+kernel)];kernel_rfl)|(rw[if_neg (by decide+kernel)];exact⟨rfl,rfl⟩))
  (fun os started H enc _ F=>by rw[OpenClaim.pre_eq_preRow];exact lifted os started H enc F)
theorem plain(f:FuncId)(fn:Func)(hf:Tryz.pinned.checked.prog.funcNamed "loop.example/g01543/laws.FnDeep"=some f)(hfn:Tryz.pinned.checked.prog.funcs[f]? =some fn):
  Rows.fnDeepCard.stood.looks=Tryz.pinned.checked.prog.looks []∧∀(j:Nat) t,fn.params[j]? =some t→Tryz.pinned.checked.prog.wantsStandIn t=false:=by
 obtain rfl:f=5:=Option.some.inj ((show Tryz.prog.funcNamed "loop.example/g01543/laws.FnDeep"=some 5 by kernel_rfl).symm.trans hf)|>.symm
 obtain rfl:fn=Tryz.f5:=(Option.some.inj (Tryz.func5.symm.trans hfn)).symm
 refine⟨by kernel_rfl,fun j t ht=> ?_⟩
 rw[Tryz.params5]at ht
 have hm:=Array.mem_of_getElem? ht
 simp only[List.mem_toArray,List.mem_cons,List.not_mem_nil,or_false]at hm
 rcases hm with rfl
 ·exact(show Tryz.prog.wantsStandIn 22=false by kernel_rfl)
end Go.Proofs.YtebjmdpkobhcbaaGreatDoor.lawDeep
namespace Go.Proofs.YtebjmdpkobhcbaaGreatDoor
theorem fnDeep_card:Rows.FnDeepCardSaid:=
 Claim7.holds_tied_plain_at .later [] _ _ _ _ lawDeep.said (fun _ h=>by cases h) (by kernel_rfl) (fun _ h=>by cases h) fnDeep_row_tie rfl ⟨rfl,rfl⟩ (by kernel_rfl) rfl lawDeep.plain (by kernel_rfl)
end Go.Proofs.YtebjmdpkobhcbaaGreatDoor
