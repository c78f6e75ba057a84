/- A part. -/
import Derived.Test.YtebjmdpkobhcbaaGreatDoorRGRb
import Derived.Test.YtebjmdpkobhcbaaGreatDoorRGRd
import Derived.Test.YtebjmdpkobhcbaaGreatDoorRGRn
import Derived.Test.YtebjmdpkobhcbaaGreatDoorRGRl
namespace Go.Proofs.YtebjmdpkobhcbaaGreatDoor.qs
open Go.ChangeShapes Go.WideShapes Go.ChangeAt Go.RowKit
open tk (Tk)
open nd (Nd PT KidV makeT)
open ps (Ps posOk top)
open pe
open rt (isLval)
open operand (begins)
open lv (opLevel levelOf has)
open pr (Bk Gr X0 below_drewN eq_facts ne_facts fld_k fld_s)
set_option linter.unusedVariables false
set_option linter.unusedSimpArgs false
set_option maxRecDepth 20000
set_option maxHeartbeats 6400000
section
variable {w0:World} {l:List Tk} {a:Option Addr} {cap:Nat} {N0:List Tk} {s:Nat} {M:Nat}
def AtJ(w0:World)(l:List Tk)(a:Option Addr)(cap:Nat)(N0:List Tk)(s:Nat)(f j:Nat)(L:Int):Prop:=
 ∀(d i g sg:Bool) (v:Value) (w:World),Sq w0 l a cap N0 s j false v w->
  Calls Tryz.prog 63 #[.pointer (some ⟨w0.heap.size,0,none⟩),.agg #[.int .i64 L,.bool d,.bool i,.bool g,.bool sg]] w (Rq w0 l a cap N0 s j v w (ex l (f+1) (cp L i g) j))
theorem at_j(hc:tk.Lies w0.heap.size w0 a l)(hl3:l.length<=3000)(hM:∀t∈l,t.s.size<=M)(h99:∀m,¬kd l m=99)(hN0:N0.length+l.length<=200000){f j:Nat}(hj:j<=l.length)(hE:CallS w0 l a cap N0 s (ex l f) (j+1))(hE':∀f',f=f'+1->kd l j=68->CallS w0 l a cap N0 s (ex l f') (j+1+1))(hf:kd l j=68->0<f):
  AtJ w0 l a cap N0 s f j 15/\AtJ w0 l a cap N0 s f j 14/\AtJ w0 l a cap N0 s f j 13/\AtJ w0 l a cap N0 s f j 12/\AtJ w0 l a cap N0 s f j 11/\AtJ w0 l a cap N0 s f j 10/\AtJ w0 l a cap N0 s f j 9/\AtJ w0 l a cap N0 s f j 8/\AtJ w0 l a cap N0 s f j 7/\AtJ w0 l a cap N0 s f j 6/\AtJ w0 l a cap N0 s f j 5/\AtJ w0 l a cap N0 s f j 4/\AtJ w0 l a cap N0 s f j 3/\AtJ w0 l a cap N0 s f j 2/\AtJ w0 l a cap N0 s f j 1:=by
 have hl:l.length<=6000:=by omega
 have hb:l.length<=100000:=by omega
 have oE:=ex_ok (l:=l) (M:=M) hM hb f
 have oX:∀(L:Int) (i g:Bool),Ok M l j (ex l (f+1) (cp L i g) j):=fun L i g=>ex_ok hM hb (f+1) _ j hj
 have sX:∀(L:Int) (i g:Bool),1<=L->L<=14->∀lv tg t m,ex l (f+1) (cp (L+1) i g) j= .ok lv tg t m->goes (kd l m) lv tg (cp (L+1) i g)=false/\L+1<=lv:=fun L i g h1 h2 lv tg t m h=>⟨ex_stuck h,ex_lv (cp_ok (L:=L+1) (i:=i) (g:=g) (by omega) (by omega)) rfl h⟩
 have hP:∀(v:Value) (w:World),Sq w0 l a cap N0 s j false v w->Calls Tryz.prog 118 #[.pointer (some ⟨w0.heap.size,0,none⟩)] w (Rq w0 l a cap N0 s j v w (prim (ex l f) l j)):=fun v w h=>prim_any w h hc hl hE oE hN0
 have D:AtJ w0 l a cap N0 s f j 15:=fun d i g sg v w h=>at_15 d i g sg w h _ (fun v w h=>by rw[ex_15];exact hP v w h)
 have o:AtJ w0 l a cap N0 s f j 14:=fun d i g sg v w h=>at_14 d i g sg w h _ (fun v w h=>by
  rw[ex_14]
  by_cases h68:kd l j=68
  ·obtain⟨f',rfl⟩:∃f',f=f'+1:=⟨f-1,by have:=hf h68;omega⟩
   exact field_any 14 d i g sg w h hc hl _ hP hE oE (ex l f') (hE' f' rfl h68) (ex_ok hM hb f') (fun _=>ex_doll)
  ·have:=field_any 14 d i g sg w h hc hl _ hP hE oE (ex l f) (hE.up (by omega)) oE (fun h=>absurd h h68)
   exact this)
 have A:AtJ w0 l a cap N0 s f j 13:=fun d i g sg v w h=>at_13 d i g sg w h _ (fun v w h=>by
  have:=incr_any 13 d i g sg w h hc hl (ex l (f+1) (cp 14 i g) j) (fun v w h=>o false i g false v w h) (oX 14 i g) hE oE
  rw[ex_13 hM hb hj]
  unfold incrR incr2R at this
  split at this
  ·next hi=>rw[if_pos hi];exact this
  ·next hi=>rw[if_neg hi];exact this)
 have hPow:∀(pl:Int) (d i g sg:Bool) (v:Value) (w:World),Sq w0 l a cap N0 s j false v w->Calls Tryz.prog 115 #[.pointer (some ⟨w0.heap.size,0,none⟩),.agg #[.int .i64 pl,.bool d,.bool i,.bool g,.bool sg]] w (Rq w0 l a cap N0 s j v w (ex l (f+1) (cp 12 i g) j)):=fun pl d i g sg v w h=>by
  have:=pow_any pl d i g sg w h hc hl (ex l (f+1) (cp 13 i g) j) (fun v w h=>A false i g false v w h) (oX 13 i g) hE oE
  rw[ex_12 hM hb hj]
  unfold powR at this
  exact this
 have F:AtJ w0 l a cap N0 s f j 12:=fun d i g sg v w h=>at_12 d i g sg w h _ (fun v w h=>hPow 12 d i g sg v w h)
 have y:AtJ w0 l a cap N0 s f j 11:=fun d i g sg v w h=>at_11 d i g sg w h _ (fun v w h=>by
  have:=unary_any 11 d i g sg w h hc hl (ex l (f+1) (cp 12 i g) j) (fun v w h=>hPow 11 d i g sg v w h) hE oE
  rw[ex_11 hM hb hj]
  exact this)
 have chain:∀(L:Int) (i g:Bool),sameB L (kd l j) i g->1<=L->L<=14->ex l (f+1) (cp L i g) j=chainR (ex l f) l L i g (ex l (f+1) (cp (L+1) i g) j):=fun L i g hs h1 h2=>by
  rw[ex_next hM hb hj h1 h2 hs]
  cases ex l (f+1) (cp (L+1) i g) j<;>rfl
 have sb:∀(L:Int) (i g:Bool),binL L->sameB L (kd l j) i g:=fun L i g h=>by
  unfold binL at h
  exact same_b (by omega) (by omega) (by omega) (by omega) (by omega) (by omega)
 have hcat:∀(i g:Bool) (L:Int),L=8->∀t m,begins (kd l m)=true->pe.step (ex l f) l (kd l m) (cp 8 i g) t m=over2 12 99 t (ex l f (cp 9 i g) m):=fun i g L _ t m h=>step_cat h
 have C:AtJ w0 l a cap N0 s f j 10:=fun d i g sg v w h=>at_10 d i g sg w h _ (fun v w h=>by
  rw[chain 10 i g (sb 10 i g (by unfold binL;omega)) (by decide) (by decide)]
  exact chain_many 10 d i g sg w h hc hl hl3 10 (.inr rfl) h99 hN0 (hcat i g 10) _ (fun v w h=>y false i g false v w h) (oX 11 i g) (sX 10 i g (by decide) (by decide)) hE oE)
 have a9:AtJ w0 l a cap N0 s f j 9:=fun d i g sg v w h=>at_9 d i g sg w h _ (fun v w h=>by
  rw[chain 9 i g (sb 9 i g (by unfold binL;omega)) (by decide) (by decide)]
  exact chain_many 9 d i g sg w h hc hl hl3 9 (.inl rfl) h99 hN0 (hcat i g 9) _ (fun v w h=>C false i g false v w h) (oX 10 i g) (sX 9 i g (by decide) (by decide)) hE oE)
 have a8:AtJ w0 l a cap N0 s f j 8:=fun d i g sg v w h=>at_8 d i g sg w h _ (fun v w h=>by
  rw[chain 8 i g (sb 8 i g (by unfold binL;omega)) (by decide) (by decide)]
  exact chain_cat 8 d i g sg w h hc hl hl3 8 rfl h99 hN0 (hcat i g 8) _ (fun v w h=>a9 false i g false v w h) (oX 9 i g) (sX 8 i g (by decide) (by decide)) hE oE)
 have a7:AtJ w0 l a cap N0 s f j 7:=fun d i g sg v w h=>at_7 d i g sg w h _ (fun v w h=>by
  rw[chain 7 i g (sb 7 i g (by unfold binL;omega)) (by decide) (by decide)]
  exact chain_one 7 d i g sg w h hc hl hl3 7 (.inr rfl) h99 hN0 (hcat i g 7) _ (fun v w h=>a8 false i g false v w h) (oX 8 i g) (sX 7 i g (by decide) (by decide)) hE oE)
 have a6:AtJ w0 l a cap N0 s f j 6:=fun d i g sg v w h=>at_6 d i g sg w h _ (fun v w h=>by
  rw[chain 6 i g (sb 6 i g (by unfold binL;omega)) (by decide) (by decide)]
  exact chain_one 6 d i g sg w h hc hl hl3 6 (.inl rfl) h99 hN0 (hcat i g 6) _ (fun v w h=>a7 false i g false v w h) (oX 7 i g) (sX 6 i g (by decide) (by decide)) hE oE)
 have a5:AtJ w0 l a cap N0 s f j 5:=fun d i g sg v w h=>at_5 d i g sg w h _ (fun v w h=>by
  by_cases hC:i=false/\comma l j=true
  ·have:=in_yes 5 d i g sg w h hc hl hM hC (ex l (f+1) (cp 6 i g) j) (fun v w h=>a6 false i g false v w h) (oX 6 i g) (fun lv tg t m h=>⟨(sX 5 i g (by decide) (by decide) lv tg t m h).1,by have:=(sX 5 i g (by decide) (by decide) lv tg t m h).2;omega⟩) hE oE hN0
   obtain⟨rfl,hcm⟩:=hC
   unfold comma at hcm
   rw[Bool.and_eq_true,beq_iff_eq]at hcm
   rw[inR_yes ⟨rfl,by unfold comma;rw[Bool.and_eq_true,beq_iff_eq];exact hcm⟩]at this
   rw[ex_5m hcm.1 hcm.2]
   exact this
  ·have:=in_no 5 d i g sg w h hc hl hM hC (ex l (f+1) (cp 6 i g) j) (fun v w h=>a6 false i g false v w h) (oX 6 i g) (fun lv tg t m h=>⟨(sX 5 i g (by decide) (by decide) lv tg t m h).1,by have:=(sX 5 i g (by decide) (by decide) lv tg t m h).2;omega⟩) hE oE hN0
   rw[inR_no hC]at this
   rw[ex_5 hM hb hj (fun h=>hC ⟨h.1,by unfold comma;rw[h.2.1,h.2.2];rfl⟩)]
   exact this)
 have a4:AtJ w0 l a cap N0 s f j 4:=fun d i g sg v w h=>at_4 d i g sg w h _ (fun v w h=>by
  rw[chain 4 i g (sb 4 i g (by unfold binL;omega)) (by decide) (by decide)]
  exact chain_lines 4 d i g sg w h hc hl hl3 4 (.inr rfl) h99 hN0 (hcat i g 4) _ (fun v w h=>a5 false i g false v w h) (oX 5 i g) (sX 4 i g (by decide) (by decide)) hE oE)
 have a3:AtJ w0 l a cap N0 s f j 3:=fun d i g sg v w h=>at_3 d i g sg w h _ (fun v w h=>by
  rw[chain 3 i g (sb 3 i g (by unfold binL;omega)) (by decide) (by decide)]
  exact chain_lines 3 d i g sg w h hc hl hl3 3 (.inl rfl) h99 hN0 (hcat i g 3) _ (fun v w h=>a4 false i g false v w h) (oX 4 i g) (sX 3 i g (by decide) (by decide)) hE oE)
 have a2:AtJ w0 l a cap N0 s f j 2:=fun d i g sg v w h=>at_2 d i g sg w h _ (fun v w h=>by
  have:=cond_any 2 d i g sg w h hc hl (ex l (f+1) (cp 3 i g) j) (fun v w h=>a3 false i g false v w h) (oX 3 i g) hE oE
  rw[ex_2 hM hb hj]
  unfold condR at this
  exact this)
 have a1:AtJ w0 l a cap N0 s f j 1:=fun d i g sg v w h=>at_1 d i g sg w h _ (fun v w h=>by
  have:=assign_any 1 d i g sg w h hc hl (ex l (f+1) (cp 2 i g) j) (fun v w h=>a2 false i g false v w h) (oX 2 i g) hE oE
  rw[ex_1 hM hb hj]
  unfold assignR at this
  exact this)
 exact⟨D,o,A,F,y,C,a9,a8,a7,a6,a5,a4,a3,a2,a1⟩
theorem at_all(hc:tk.Lies w0.heap.size w0 a l)(hl3:l.length<=3000)(hM:∀t∈l,t.s.size<=M)(h99:∀m,¬kd l m=99)(hN0:N0.length+l.length<=200000):∀f f' j0,f'<=f->l.length-j0<f'->CallS w0 l a cap N0 s (ex l f') j0:=by
 intro f
 induction f with
 |zero=>intro f' j0 h1 h2;omega
 |succ f ih=>
  intro f' j0 h1 h2 L i g bd j v w G H hj hst
  cases bd with
  |true=>exact at_bad L false i g false w hst
  |false=>
   obtain⟨q,rfl⟩:∃q,f'=q+1:=⟨f'-1,by omega⟩
   have hjn:=hst.jn
   have vac:∀(E:Ps->Nat->R) (j1:Nat),l.length<j1->CallS w0 l a cap N0 s E j1:=fun E j1 h L i g bd j v w _ _ h3 hst=>by have:=hst.jn;omega
   have hE:CallS w0 l a cap N0 s (ex l q) (j+1):=by
    by_cases h:l.length<j+1
    ·exact vac _ _ h
    ·exact ih q (j+1) (by omega) (by omega)
   have hE':∀q',q=q'+1->kd l j=68->CallS w0 l a cap N0 s (ex l q') (j+1+1):=fun q' hq hk=>by
    by_cases h:l.length<j+1+1
    ·exact vac _ _ h
    ·exact ih q' (j+1+1) (by omega) (by omega)
   obtain⟨y,o,F,A,C,D,b9,b8,b7,b6,b5,b4,b3,b2,b1⟩:=at_j (M:=M) hc hl3 hM h99 hN0 hjn hE hE' (fun hk=>by have:=kd_lt (l:=l) (i:=j) (by omega);omega)
   rw[bB_f]
   have hcase:L=1\/L=2\/L=3\/L=4\/L=5\/L=6\/L=7\/L=8\/L=9\/L=10\/L=11\/L=12\/L=13\/L=14\/L=15:=by omega
   rcases hcase with rfl|rfl|rfl|rfl|rfl|rfl|rfl|rfl|rfl|rfl|rfl|rfl|rfl|rfl|rfl
   ·exact b1 false i g false v w hst
   ·exact b2 false i g false v w hst
   ·exact b3 false i g false v w hst
   ·exact b4 false i g false v w hst
   ·exact b5 false i g false v w hst
   ·exact b6 false i g false v w hst
   ·exact b7 false i g false v w hst
   ·exact b8 false i g false v w hst
   ·exact b9 false i g false v w hst
   ·exact D false i g false v w hst
   ·exact C false i g false v w hst
   ·exact A false i g false v w hst
   ·exact F false i g false v w hst
   ·exact o false i g false v w hst
   ·exact y false i g false v w hst
theorem at_top(hc:tk.Lies w0.heap.size w0 a l)(hl3:l.length<=3000)(hM:∀t∈l,t.s.size<=M)(h99:∀m,¬kd l m=99)(hN0:N0.length+l.length<=200000){L:Int}(h1:1<=L)(h2:L<=15)(d i g sg:Bool)(v:Value)(w:World)(hst:Sq w0 l a cap N0 s 0 false v w):
  Calls Tryz.prog 63 #[.pointer (some ⟨w0.heap.size,0,none⟩),.agg #[.int .i64 L,.bool d,.bool i,.bool g,.bool sg]] w (Rq w0 l a cap N0 s 0 v w (ex l (l.length+1) (cp L i g) 0)):=by
 have vac:∀(E:Ps->Nat->R) (j1:Nat),l.length<j1->CallS w0 l a cap N0 s E j1:=fun E j1 h L i g bd j v w _ _ h3 hst=>by have:=hst.jn;omega
 have hA:∀q j1,l.length-j1<q->CallS w0 l a cap N0 s (ex l q) j1:=fun q j1 h=>at_all (M:=M) hc hl3 hM h99 hN0 q q j1 (Nat.le_refl _) h
 have hE:CallS w0 l a cap N0 s (ex l l.length) (0+1):=by
  by_cases h:l.length<0+1
  ·exact vac _ _ h
  ·exact hA _ _ (by omega)
 have hE':∀q',l.length=q'+1->kd l 0=68->CallS w0 l a cap N0 s (ex l q') (0+1+1):=fun q' hq hk=>by
  by_cases h:l.length<0+1+1
  ·exact vac _ _ h
  ·exact hA _ _ (by omega)
 obtain⟨y,o,F,A,C,D,b9,b8,b7,b6,b5,b4,b3,b2,b1⟩:=at_j (M:=M) hc hl3 hM h99 hN0 (Nat.zero_le _) hE hE' (fun hk=>kd_lt (l:=l) (i:=0) (by omega))
 have hcase:L=1\/L=2\/L=3\/L=4\/L=5\/L=6\/L=7\/L=8\/L=9\/L=10\/L=11\/L=12\/L=13\/L=14\/L=15:=by omega
 rcases hcase with rfl|rfl|rfl|rfl|rfl|rfl|rfl|rfl|rfl|rfl|rfl|rfl|rfl|rfl|rfl
 ·exact b1 d i g sg v w hst
 ·exact b2 d i g sg v w hst
 ·exact b3 d i g sg v w hst
 ·exact b4 d i g sg v w hst
 ·exact b5 d i g sg v w hst
 ·exact b6 d i g sg v w hst
 ·exact b7 d i g sg v w hst
 ·exact b8 d i g sg v w hst
 ·exact b9 d i g sg v w hst
 ·exact D d i g sg v w hst
 ·exact C d i g sg v w hst
 ·exact A d i g sg v w hst
 ·exact F d i g sg v w hst
 ·exact o d i g sg v w hst
 ·exact y d i g sg v w hst
end
end Go.Proofs.YtebjmdpkobhcbaaGreatDoor.qs
