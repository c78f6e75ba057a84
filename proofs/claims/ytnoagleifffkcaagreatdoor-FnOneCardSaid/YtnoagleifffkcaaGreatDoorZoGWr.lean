/-

-/
import Derived.Test.YtnoagleifffkcaaGreatDoorZoTokMath
import Derived.Test.YtnoagleifffkcaaGreatDoorZoGOw
import Derived.Test.YtnoagleifffkcaaGreatDoorZoGSp
import Derived.Deep.RegionHeld3
import Derived.Test.YtnoagleifffkcaaGreatDoorZoGKd
namespace Go.Proofs.YtnoagleifffkcaaGreatDoor.tw
open Lib (hid)
open Go.ChangeShapes Go.WideShapes Go.ChangeAt Go.RowKit
open tk (Tk)
open own (wpList_append_tok2)
open nd (Nd)
open ps (Ps B5 posOk kidI top)
open spell (Held)
open et
set_option linter.unusedVariables false
set_option maxRecDepth 20000
structure St(w0:World)(a:Option Addr)(n cap:Nat)(fv v:Value)(ts:List Tk)(w:World):Prop where
 bel:Below w0.heap.size w0 w
 box:w.heap[w0.heap.size]? =some (.cells #[.slice a n cap,fv,v] 52 (0,0))
 own:own.Own (w0.heap.size+1) v ts w
structure Gr(b:Nat)(v v':Value)(w w':World):Prop where
 size:w.heap.size≤w'.heap.size
 keep:∀k,k<w.heap.size→k≠b→some k≠v.ownBlock→w'.heap[k]? =w.heap[k]?
 own:v'.ownBlock=v.ownBlock∨∃g,v'.ownBlock=some g∧w.heap.size≤g
theorem Gr.refl(b:Nat)(v:Value)(w:World):Gr b v v w w:=⟨Nat.le_refl _,fun _ _ _ _=>rfl,.inl rfl⟩
theorem Gr.ne{b:Nat}{v v':Value}{w w':World}(h:Gr b v v' w w'){k:Nat}(hk:k<w.heap.size)(hn:some k≠v.ownBlock):some k≠v'.ownBlock:=by
 rcases h.own with e|⟨g,e,hg⟩
 ·rw[e];exact hn
 ·rw[e];intro e2;injection e2 with e2;omega
theorem Gr.trans{b:Nat}{v v1 v2:Value}{w w1 w2:World}(h:Gr b v v1 w w1)(k:Gr b v1 v2 w1 w2):Gr b v v2 w w2:=by
 refine⟨Nat.le_trans h.size k.size,fun j hj hb hn=>(k.keep j (Nat.lt_of_lt_of_le hj h.size) hb (h.ne hj hn)).trans (h.keep j hj hb hn), ?_⟩
 rcases k.own with e|⟨g,e,hg⟩
 ·rw[e];exact h.own
 ·exact .inr ⟨g,e,Nat.le_trans h.size hg⟩
theorem Gr.quiet{b:Nat}{v:Value}{w w':World}(h:Below w.heap.size w w'):Gr b v v w w':=⟨h.size,fun k hk _ _=>h.block k hk,.inl rfl⟩
section
variable {w0:World} {a:Option Addr} {n cap:Nat} {fv v:Value} {ts:List Tk} {w w':World}
theorem St.lt(h:St w0 a n cap fv v ts w):w0.heap.size<w.heap.size:=by
 rcases Nat.lt_or_ge w0.heap.size w.heap.size with h'|h'
 ·exact h'
 ·have:=h.box;rw[Array.getElem?_eq_none h']at this;cases this
theorem St.keep(h:St w0 a n cap fv v ts w)(hb:Below w.heap.size w w'):St w0 a n cap fv v ts w':=
 ⟨h.bel.trans (hb.mono h.bel.size),(hb.block _ h.lt).trans h.box,h.own.keep hb (Nat.le_refl _)⟩
theorem St.alloc(h:St w0 a n cap fv v ts w)(o:Obj):St w0 a n cap fv v ts (w.alloc o):=h.keep ((Below.refl _ _).alloc (Nat.le_refl _) _)
theorem St.drew(h:St w0 a n cap fv v ts w):St w0 a n cap fv v ts w.drew:=h.keep ((Below.refl _ _).drew)
theorem St.c(h:St w0 a n cap fv v ts w):w.cell? ⟨w0.heap.size,0,none⟩=some (.slice a n cap)∧w.cell? ⟨w0.heap.size,1,none⟩=some fv∧w.cell? ⟨w0.heap.size,2,none⟩=some v:=
 ⟨by rw[cell_of_row w _ 0 _ _ _ h.box];rfl,by rw[cell_of_row w _ 1 _ _ _ h.box];rfl,by rw[cell_of_row w _ 2 _ _ _ h.box];rfl⟩
theorem St.f(h:St w0 a n cap fv v ts w)(j:Nat):w.frozen? ⟨w0.heap.size,j,none⟩=false:=frozen_of_row w _ j _ _ h.box
theorem St.held(h:St w0 a n cap fv v ts w)(hh:Held w0):Held w:=hh.below h.bel
theorem St.new(h:St w0 a n cap fv v ts w){g:Nat}(hg:w.heap.size≤g):some g≠v.ownBlock:=fun e=>by have:=(World.ownsRow.lt h.own _ e.symm).2;omega
end
def Put(w0:World)(a:Option Addr)(n cap:Nat)(fv v:Value)(ts T:List Tk)(w:World)(e:Ending)(w':World):Prop:=
 e= .returned (.tuple #[])∧∃v',St w0 a n cap fv v' (ts++T) w'∧Gr w0.heap.size v v' w w'
set_option maxHeartbeats 800000 in
theorem add_any{w0:World}{a:Option Addr}{n cap:Nat}{fv v:Value}{ts:List Tk}(k:Int)(s:ByteArray)(w:World)(hl:ts.length≤1048576)(hst:St w0 a n cap fv v ts w):
  Calls Tryz.prog 92 #[.pointer (some ⟨w0.heap.size,0,none⟩),.int .i64 k,.string s] w (Put w0 a n cap fv v ts [⟨k,s,0⟩] w):=by
 have HS:=hid hst
 obtain⟨c0,c1,c2⟩:=hst.c
 have hf:∀W:World,Below (w0.heap.size+1) w W→W.frozen? ⟨w0.heap.size,2,none⟩=false∧∃u,W.cell? ⟨w0.heap.size,2,none⟩=some u:=fun W hb=>by
  have hbx:=(hb.block _ (Nat.lt_succ_self _)).trans HS.box
  exact⟨frozen_of_row W _ 2 _ _ hbx,v,by rw[cell_of_row W _ 2 _ _ _ hbx];rfl⟩
 have HF:=hid hf
 clear hst hf
 go_enter Tryz.func92,Tryz.ntmps92
 go_wp2_with (first|(at_builtin;refine wpList_append_tok2 w ⟨k,s,0⟩ rfl _ _ rfl (w0.heap.size+1) _ ts rfl HS.own rfl ?n1 ?n2 ?n3))
 case n1=>exact hl
 case n2=>exact HS.lt
 case n3=>
  intro g c w2 y b2 g2 hor
  obtain⟨f2,u2,d2⟩:=HF.out w2 b2
  have HO:=hid y
  have HB:=hid b2
  have HG:=hid g2
  have HR:=hid hor
  clear y b2 g2 hor
  go_wp2
  go_end0
  refine⟨rfl,.slice (some ⟨g,0,none⟩) (ts.length+1) c,⟨?_, ?_, ?_⟩,⟨?_, ?_, ?_⟩⟩
  ·exact(HS.bel.trans (HB.mono (Nat.le_succ _))).setCell (Nat.le_refl _) _
  ·exact heap_setCell_same _ _ 2 _ _ _ ((HB.block _ (Nat.lt_succ_self _)).trans HS.box)
  ·exact ownsRow_setCell_below HO.out (a:=⟨w0.heap.size,2,none⟩) (Nat.lt_succ_self _) _
  ·simpa using HB.size
  ·intro j hj hb hn
   rw[heap_setCell_other _ _ j _ hb]
   exact HG.block j hj hn
  ·rcases HR.out with e|e
   ·exact .inl (by rw[e];rfl)
   ·exact .inr ⟨g,rfl,e⟩
theorem symbol_any{w0:World}{a:Option Addr}{n cap:Nat}{fv v:Value}{ts:List Tk}(hh:Held w0)(k:Int)(w:World)(hl:ts.length≤1048576)(hst:St w0 a n cap fv v ts w):
  Calls Tryz.prog 54 #[.pointer (some ⟨w0.heap.size,0,none⟩),.int .i64 k] w (Put w0 a n cap fv v ts [tok k] w):=by
 have HS:=hid hst
 have HH:=hid (hst.held hh)
 clear hst hh
 go_enter Tryz.func54,Tryz.ntmps54
 go_wp2_with fail
 refine(spell.impl_spell k w HH.out).mono ?_
 rintro e w1 ⟨rfl,rfl⟩
 go_wp2_with fail
 refine(add_any k (spell.spell k) w hl HS.out).mono ?_
 rintro e w2 ⟨rfl,hp⟩
 have HP:=hid hp
 clear hp
 go_wp2
 go_end0
 exact⟨rfl,HP.out⟩
end Go.Proofs.YtnoagleifffkcaaGreatDoor.tw

namespace Go.Proofs.YtnoagleifffkcaaGreatDoor.tw
open Lib (hid)
open Go.ChangeShapes Go.WideShapes Go.ChangeAt Go.RowKit
open tk (Tk)
open own
open nd (Nd Ints)
open ps (Ps posOk kidI top)
open spell (Held)
open et
set_option linter.unusedVariables false
set_option linter.unusedSimpArgs false
set_option maxRecDepth 20000
structure Fm(b:Nat)(n:Nd)(ak:Option Addr)(ck:Nat)(p:Ps)(gn gp:Nat)(v:Value)(w:World):Prop where
 n:w.heap[gn]? =some (.cells #[.int .i64 n.k,.int .i64 n.op,.string n.s,.string n.t,.slice ak n.kids.length ck] 57 (0,0))
 p:w.heap[gp]? =some (.cells #[.int .i64 p.l,.bool p.d,.bool p.i,.bool p.g,.bool p.s] 26 (0,0))
 fn:gn≠b∧some gn≠v.ownBlock
 fp:gp≠b∧some gp≠v.ownBlock
theorem undrew{B:Nat}{W w1:World}(h:Below B W.drew w1):Below B W w1:=⟨h.os,h.tape,h.output,h.size,h.block⟩
theorem cell_drew{w:World}{x:Addr}{u:Value}(h:w.cell? x=some u):w.drew.cell? x=some u:=h
theorem lt_of{w:World}{g:Nat}{o:Obj}(h:w.heap[g]? =some o):g<w.heap.size:=by
 rcases Nat.lt_or_ge g w.heap.size with h'|h'
 ·exact h'
 ·rw[Array.getElem?_eq_none h']at h;cases h
section
variable {b:Nat} {n:Nd} {ak:Option Addr} {ck:Nat} {p:Ps} {gn gp:Nat} {v v':Value} {w w':World}
theorem Fm.on(h:Fm b n ak ck p gn gp v w)(g:Gr b v v' w w'):Fm b n ak ck p gn gp v' w':=
 ⟨(g.keep _ (lt_of h.n) h.fn.1 h.fn.2).trans h.n,(g.keep _ (lt_of h.p) h.fp.1 h.fp.2).trans h.p,⟨h.fn.1,g.ne (lt_of h.n) h.fn.2⟩,⟨h.fp.1,g.ne (lt_of h.p) h.fp.2⟩⟩
theorem Fm.drew(h:Fm b n ak ck p gn gp v w):Fm b n ak ck p gn gp v w.drew:=⟨h.n,h.p,h.fn,h.fp⟩
theorem Fm.c(h:Fm b n ak ck p gn gp v w):w.cell? ⟨gn,0,none⟩=some (.int .i64 n.k)∧w.cell? ⟨gn,1,none⟩=some (.int .i64 n.op)∧w.cell? ⟨gn,2,none⟩=some (.string n.s)∧w.cell? ⟨gn,3,none⟩=some (.string n.t)∧w.cell? ⟨gn,4,none⟩=some (.slice ak n.kids.length ck)∧w.cell? ⟨gp,0,none⟩=some (.int .i64 p.l)∧w.cell? ⟨gp,1,none⟩=some (.bool p.d)∧w.cell? ⟨gp,2,none⟩=some (.bool p.i)∧w.cell? ⟨gp,3,none⟩=some (.bool p.g)∧w.cell? ⟨gp,4,none⟩=some (.bool p.s):=by
 refine⟨?_, ?_, ?_, ?_, ?_, ?_, ?_, ?_, ?_, ?_⟩
 ·rw[cell_of_row w gn 0 _ _ _ h.n];rfl
 ·rw[cell_of_row w gn 1 _ _ _ h.n];rfl
 ·rw[cell_of_row w gn 2 _ _ _ h.n];rfl
 ·rw[cell_of_row w gn 3 _ _ _ h.n];rfl
 ·rw[cell_of_row w gn 4 _ _ _ h.n];rfl
 ·rw[cell_of_row w gp 0 _ _ _ h.p];rfl
 ·rw[cell_of_row w gp 1 _ _ _ h.p];rfl
 ·rw[cell_of_row w gp 2 _ _ _ h.p];rfl
 ·rw[cell_of_row w gp 3 _ _ _ h.p];rfl
 ·rw[cell_of_row w gp 4 _ _ _ h.p];rfl
theorem Fm.start{w0:World}{a:Option Addr}{m cap:Nat}{fv:Value}{ts:List Tk}(h:St w0 a m cap fv v ts w)(n:Nd)(ak:Option Addr)(ck:Nat)(p:Ps):
  Fm w0.heap.size n ak ck p w.heap.size (w.heap.size+1) v ((w.alloc (.cells #[.int .i64 n.k,.int .i64 n.op,.string n.s,.string n.t,.slice ak n.kids.length ck] 57)).alloc (.cells #[.int .i64 p.l,.bool p.d,.bool p.i,.bool p.g,.bool p.s] 26))∧St w0 a m cap fv v ts ((w.alloc (.cells #[.int .i64 n.k,.int .i64 n.op,.string n.s,.string n.t,.slice ak n.kids.length ck] 57)).alloc (.cells #[.int .i64 p.l,.bool p.d,.bool p.i,.bool p.g,.bool p.s] 26))∧Gr w0.heap.size v v w ((w.alloc (.cells #[.int .i64 n.k,.int .i64 n.op,.string n.s,.string n.t,.slice ak n.kids.length ck] 57)).alloc (.cells #[.int .i64 p.l,.bool p.d,.bool p.i,.bool p.g,.bool p.s] 26)):=by
 have hl:=h.lt
 have hb:Below w.heap.size w ((w.alloc (.cells #[.int .i64 n.k,.int .i64 n.op,.string n.s,.string n.t,.slice ak n.kids.length ck] 57)).alloc (.cells #[.int .i64 p.l,.bool p.d,.bool p.i,.bool p.g,.bool p.s] 26)):=((Below.refl _ _).alloc (Nat.le_refl _) _).alloc (by simp) _
 refine⟨⟨?_, ?_,⟨by omega,h.new (Nat.le_refl _)⟩,⟨by omega,h.new (Nat.le_succ _)⟩⟩,h.keep hb,Gr.quiet hb⟩
 ·rw[Below.heap_alloc _ _ _ (by simp)]
  exact heap_alloc_new w _
 ·have:=heap_alloc_new (w.alloc (.cells #[.int .i64 n.k,.int .i64 n.op,.string n.s,.string n.t,.slice ak n.kids.length ck] 57)) (.cells #[.int .i64 p.l,.bool p.d,.bool p.i,.bool p.g,.bool p.s] 26)
  simpa using this
end
theorem Fm.keepQ{b:Nat}{n:Nd}{ak:Option Addr}{ck:Nat}{p:Ps}{gn gp:Nat}{v:Value}{w w':World}(h:Fm b n ak ck p gn gp v w)(hb:Below w.heap.size w w'):Fm b n ak ck p gn gp v w':=h.on (Gr.quiet hb)
theorem misfits_any(n:Nd)(ak:Option Addr)(ck:Nat)(p:Ps)(w:World):
  Calls Tryz.prog 26 #[.agg #[.int .i64 n.k,.int .i64 n.op,.string n.s,.string n.t,.slice ak n.kids.length ck],.agg #[.int .i64 p.l,.bool p.d,.bool p.i,.bool p.g,.bool p.s]] w fun e w'=>e= .returned (.bool (mis n p))∧Below w.heap.size w w':=by
 go_enter Tryz.func26,Tryz.ntmps26
 go_wp2_with fail
 refine(ps.impl_fits n.k n.op p.l n.s n.t ak n.kids.length ck p.d p.i p.g p.s _).mono ?_
 rintro e w1 ⟨rfl,b1⟩
 have B1:=hid (show Below w.heap.size w w1 from(((Below.refl w.heap.size w).alloc (Nat.le_refl _) _).alloc (by simp) _).trans (b1.mono (by simp;omega)))
 clear b1
 go_wp2
 go_ret
 exact⟨rfl,B1.out⟩
def CallE(F:FuncId)(w0:World)(a:Option Addr)(m cap:Nat)(fv:Value)(i:Nat)(R:Ps→List Tk):Prop:=
 ∀(q:Ps),posOk q.l q.d=true→∀(v:Value) (ts:List Tk) (w:World),St w0 a m cap fv v ts w→ts.length+(R q).length≤1048576→
  Calls Tryz.prog F #[.pointer (some ⟨w0.heap.size,0,none⟩),.int .i64 (i:Int),.agg #[.int .i64 q.l,.bool q.d,.bool q.i,.bool q.g,.bool q.s]] w (Put w0 a m cap fv v ts (R q) w)
theorem kid_cell{n:Nd}{ak:Option Addr}{w0 w:World}(hi:Ints w0.heap.size w0 ak n.kids)(hb:Below w0.heap.size w0 w){K:Nat}(hK:K<n.kids.length)(hk:n.kids.getD K 0=(kd n K:Int)):
  ∃bk ok,ak=some ⟨bk,ok,none⟩∧bk<w0.heap.size∧w.cell? ⟨bk,ok+K,none⟩=some (.int .i64 (kd n K:Int)):=by
 obtain⟨bk,ok,e,hlt,hc⟩:=nd.ints_at hi hK
 refine⟨bk,ok,e,hlt, ?_⟩
 rw[hb.cell (p:=⟨bk,ok+K,none⟩) hlt,hc K hK,←hk,List.getD_eq_getElem?_getD,List.getElem?_eq_getElem hK]
 rfl
set_option maxHeartbeats 1600000 in
theorem kid_any{w0:World}{a:Option Addr}{m cap:Nat}{fv:Value}{F:Nat→Ps→List Tk}{v:Value}{ts:List Tk}(n:Nd)(ak:Option Addr)(ck:Nat)(p:Ps)(K:Nat)(hK:K<n.kids.length)(w:World)(hp:posOk p.l p.d=true)(hq:posOk (kp n K p).l (kp n K p).d=true)(hn:n.kids.length≤1048576)(hkd:n.kids.getD K 0=(kd n K:Int))(hi:Ints w0.heap.size w0 ak n.kids)
  (hE:CallE 27 w0 a m cap fv (kd n K) (F (kd n K))) (hst:St w0 a m cap fv v ts w) (hl:ts.length+(F (kd n K) (kp n K p)).length≤1048576):
  Calls Tryz.prog 206 #[.pointer (some ⟨w0.heap.size,0,none⟩),.agg #[.int .i64 n.k,.int .i64 n.op,.string n.s,.string n.t,.slice ak n.kids.length ck],.int .i64 (K:Int),.agg #[.int .i64 p.l,.bool p.d,.bool p.i,.bool p.g,.bool p.s]] w (Put w0 a m cap fv v ts (F (kd n K) (kp n K p)) w):=by
 obtain⟨X0,S0,G0⟩:=Fm.start hst n ak ck p
 obtain⟨bk,ok,rfl,hbk,hkc⟩:=kid_cell (w:=(w.alloc (.cells #[.int .i64 n.k,.int .i64 n.op,.string n.s,.string n.t,.slice ak n.kids.length ck] 57)).alloc (.cells #[.int .i64 p.l,.bool p.d,.bool p.i,.bool p.g,.bool p.s] 26)) hi S0.bel hK hkd
 have HX:=hid X0
 have HS:=hid S0
 have HG:=hid G0
 have HE:=hid hE
 have HL:=hid hl
 have HQ:=hid hq
 have G:=hst.lt
 have Y0:=hid (And.intro X0.drew.c (cell_drew hkc))
 have HN:=hid hn
 have I:(0:Int)≤(n.kids.length:Int):=by omega
 have y:((K:Int))<(n.kids.length:Int):=by omega
 have HKB:=hid (show∀w1:World,Below ((w.alloc (.cells #[.int .i64 n.k,.int .i64 n.op,.string n.s,.string n.t,.slice (some ⟨bk,ok,none⟩) n.kids.length ck] 57)).alloc (.cells #[.int .i64 p.l,.bool p.d,.bool p.i,.bool p.g,.bool p.s] 26)).heap.size ((w.alloc (.cells #[.int .i64 n.k,.int .i64 n.op,.string n.s,.string n.t,.slice (some ⟨bk,ok,none⟩) n.kids.length ck] 57)).alloc (.cells #[.int .i64 p.l,.bool p.d,.bool p.i,.bool p.g,.bool p.s] 26)) w1→w1.cell? ⟨bk,ok+K,none⟩=some (.int .i64 (kd n K:Int))from fun w1 hb=>(hb.cell (p:=⟨bk,ok+K,none⟩) (by simp;omega)).trans hkc)
 have HPS:=hid (show∀W,Calls Tryz.prog 213 #[.agg #[.int .i64 n.k,.int .i64 n.op,.string n.s,.string n.t,.slice (some ⟨bk,ok,none⟩) n.kids.length ck],.int .i64 (K:Int),.agg #[.int .i64 p.l,.bool p.d,.bool p.i,.bool p.g,.bool p.s]] W fun e w'=>e= .returned (.agg #[.int .i64 (kp n K p).l,.bool (kp n K p).d,.bool (kp n K p).i,.bool (kp n K p).g,.bool (kp n K p).s])∧Below W.heap.size W w' from fun W=>ps.impl_kidPos n.k n.op n.s n.t _ n.kids.length ck (K:Int) p.l p.d p.i p.g p.s W hn)
 clear X0 S0 G0 hE hst hl hq hkc hi
 obtain⟨W0,j⟩:∃W,W=(w.alloc (.cells #[.int .i64 n.k,.int .i64 n.op,.string n.s,.string n.t,.slice (some ⟨bk,ok,none⟩) n.kids.length ck] 57)).alloc (.cells #[.int .i64 p.l,.bool p.d,.bool p.i,.bool p.g,.bool p.s] 26):=⟨_,rfl⟩
 go_enter Tryz.func206,Tryz.ntmps206
 go_wp2_with fail
 rw[←j]at HX HS HG Y0 HKB⊢
 clear j
 go_region_held3 (fun w'=>(w'.cell? ⟨w.heap.size,0,none⟩=some (.int .i64 n.k)∧w'.cell? ⟨w.heap.size,1,none⟩=some (.int .i64 n.op)∧w'.cell? ⟨w.heap.size,2,none⟩=some (.string n.s)∧w'.cell? ⟨w.heap.size,3,none⟩=some (.string n.t)∧w'.cell? ⟨w.heap.size,4,none⟩=some (.slice (some ⟨bk,ok,none⟩) n.kids.length ck)∧w'.cell? ⟨(w.heap.size+1),0,none⟩=some (.int .i64 p.l)∧w'.cell? ⟨(w.heap.size+1),1,none⟩=some (.bool p.d)∧w'.cell? ⟨(w.heap.size+1),2,none⟩=some (.bool p.i)∧w'.cell? ⟨(w.heap.size+1),3,none⟩=some (.bool p.g)∧w'.cell? ⟨(w.heap.size+1),4,none⟩=some (.bool p.s))∧w'.cell? ⟨bk,ok+K,none⟩=some (.int .i64 (kd n K:Int)))
  (first|with_reducible exact Y0.out|with_reducible exact Y1.out|with_reducible exact Y2.out)
  (first|(go_at_call 213;refine(HPS.out _).mono ?_;rintro e w1 ⟨rfl,b1⟩;have X1:=hid (HX.keepQ (undrew b1));have S1:=hid (HS.keep (undrew b1));have K1:=hid (HKB.out _ (undrew b1));have Y1:=hid (And.intro X1.c K1.out);have G1:=hid (Gr.trans HG.out (Gr.quiet (undrew b1)));clear b1)|(go_at_call 27;refine(HE.out _ HQ.out _ _ _ S1.out HL.out).mono ?_;rintro e w2 ⟨rfl,hput⟩;obtain⟨v2,s2,g2⟩:=hput;have X2:=hid (X1.on g2);have S2:=hid s2;have G2:=hid (G1.trans g2);have Y2:=hid (And.intro X2.c ((s2.bel.cell (p:=⟨bk,ok+K,none⟩) hbk).trans ((S1.bel.cell (p:=⟨bk,ok+K,none⟩) hbk).symm.trans K1.out)));clear s2 g2))
 go_wp2
 go_end0
 exact⟨rfl,v2,S2.out,G2.out⟩
set_option maxHeartbeats 1600000 in
theorem target_any{w0:World}{a:Option Addr}{m cap:Nat}{fv:Value}{F:Nat→Ps→List Tk}{v:Value}{ts:List Tk}(n:Nd)(ak:Option Addr)(ck:Nat)(p:Ps)(hK:0<n.kids.length)(w:World)(hp:posOk p.l p.d=true)(hq:posOk (kp n 0 p).l (kp n 0 p).d=true)(hn:n.kids.length≤1048576)(hkd:n.kids.getD 0 0=(kd n 0:Int))(hi:Ints w0.heap.size w0 ak n.kids)
  (hE:CallE 53 w0 a m cap fv (kd n 0) (F (kd n 0))) (hst:St w0 a m cap fv v ts w) (hl:ts.length+(F (kd n 0) (kp n 0 p)).length≤1048576):
  Calls Tryz.prog 207 #[.pointer (some ⟨w0.heap.size,0,none⟩),.agg #[.int .i64 n.k,.int .i64 n.op,.string n.s,.string n.t,.slice ak n.kids.length ck],.agg #[.int .i64 p.l,.bool p.d,.bool p.i,.bool p.g,.bool p.s]] w (Put w0 a m cap fv v ts (F (kd n 0) (kp n 0 p)) w):=by
 obtain⟨X0,S0,G0⟩:=Fm.start hst n ak ck p
 obtain⟨bk,ok,rfl,hbk,hkc⟩:=kid_cell (w:=(w.alloc (.cells #[.int .i64 n.k,.int .i64 n.op,.string n.s,.string n.t,.slice ak n.kids.length ck] 57)).alloc (.cells #[.int .i64 p.l,.bool p.d,.bool p.i,.bool p.g,.bool p.s] 26)) hi S0.bel hK hkd
 rw[Nat.add_zero]at hkc
 have HX:=hid X0
 have HS:=hid S0
 have HG:=hid G0
 have HE:=hid hE
 have HL:=hid hl
 have HQ:=hid hq
 have G:=hst.lt
 have Y0:=hid (And.intro X0.drew.c (cell_drew hkc))
 have HN:=hid hn
 have I:(0:Int)≤(n.kids.length:Int):=by omega
 have y:((0:Int))<(n.kids.length:Int):=by omega
 have HKB:=hid (show∀w1:World,Below ((w.alloc (.cells #[.int .i64 n.k,.int .i64 n.op,.string n.s,.string n.t,.slice (some ⟨bk,ok,none⟩) n.kids.length ck] 57)).alloc (.cells #[.int .i64 p.l,.bool p.d,.bool p.i,.bool p.g,.bool p.s] 26)).heap.size ((w.alloc (.cells #[.int .i64 n.k,.int .i64 n.op,.string n.s,.string n.t,.slice (some ⟨bk,ok,none⟩) n.kids.length ck] 57)).alloc (.cells #[.int .i64 p.l,.bool p.d,.bool p.i,.bool p.g,.bool p.s] 26)) w1→w1.cell? ⟨bk,ok,none⟩=some (.int .i64 (kd n 0:Int))from fun w1 hb=>(hb.cell (p:=⟨bk,ok,none⟩) (by simp;omega)).trans hkc)
 have HPS:=hid (show∀W,Calls Tryz.prog 213 #[.agg #[.int .i64 n.k,.int .i64 n.op,.string n.s,.string n.t,.slice (some ⟨bk,ok,none⟩) n.kids.length ck],.int .i64 0,.agg #[.int .i64 p.l,.bool p.d,.bool p.i,.bool p.g,.bool p.s]] W fun e w'=>e= .returned (.agg #[.int .i64 (kp n 0 p).l,.bool (kp n 0 p).d,.bool (kp n 0 p).i,.bool (kp n 0 p).g,.bool (kp n 0 p).s])∧Below W.heap.size W w' from fun W=>ps.impl_kidPos n.k n.op n.s n.t _ n.kids.length ck 0 p.l p.d p.i p.g p.s W hn)
 clear X0 S0 G0 hE hst hl hq hkc hi
 obtain⟨W0,j⟩:∃W,W=(w.alloc (.cells #[.int .i64 n.k,.int .i64 n.op,.string n.s,.string n.t,.slice (some ⟨bk,ok,none⟩) n.kids.length ck] 57)).alloc (.cells #[.int .i64 p.l,.bool p.d,.bool p.i,.bool p.g,.bool p.s] 26):=⟨_,rfl⟩
 go_enter Tryz.func207,Tryz.ntmps207
 go_wp2_with fail
 rw[←j]at HX HS HG Y0 HKB⊢
 clear j
 go_region_held3 (fun w'=>(w'.cell? ⟨w.heap.size,0,none⟩=some (.int .i64 n.k)∧w'.cell? ⟨w.heap.size,1,none⟩=some (.int .i64 n.op)∧w'.cell? ⟨w.heap.size,2,none⟩=some (.string n.s)∧w'.cell? ⟨w.heap.size,3,none⟩=some (.string n.t)∧w'.cell? ⟨w.heap.size,4,none⟩=some (.slice (some ⟨bk,ok,none⟩) n.kids.length ck)∧w'.cell? ⟨(w.heap.size+1),0,none⟩=some (.int .i64 p.l)∧w'.cell? ⟨(w.heap.size+1),1,none⟩=some (.bool p.d)∧w'.cell? ⟨(w.heap.size+1),2,none⟩=some (.bool p.i)∧w'.cell? ⟨(w.heap.size+1),3,none⟩=some (.bool p.g)∧w'.cell? ⟨(w.heap.size+1),4,none⟩=some (.bool p.s))∧w'.cell? ⟨bk,ok,none⟩=some (.int .i64 (kd n 0:Int)))
  (first|with_reducible exact Y0.out|with_reducible exact Y1.out|with_reducible exact Y2.out)
  (first|(go_at_call 213;refine(HPS.out _).mono ?_;rintro e w1 ⟨rfl,b1⟩;have X1:=hid (HX.keepQ (undrew b1));have S1:=hid (HS.keep (undrew b1));have K1:=hid (HKB.out _ (undrew b1));have Y1:=hid (And.intro X1.c K1.out);have G1:=hid (Gr.trans HG.out (Gr.quiet (undrew b1)));clear b1)|(go_at_call 53;refine(HE.out _ HQ.out _ _ _ S1.out HL.out).mono ?_;rintro e w2 ⟨rfl,hput⟩;obtain⟨v2,s2,g2⟩:=hput;have X2:=hid (X1.on g2);have S2:=hid s2;have G2:=hid (G1.trans g2);have Y2:=hid (And.intro X2.c ((s2.bel.cell (p:=⟨bk,ok,none⟩) hbk).trans ((S1.bel.cell (p:=⟨bk,ok,none⟩) hbk).symm.trans K1.out)));clear s2 g2))
 go_wp2
 go_end0
 exact⟨rfl,v2,S2.out,G2.out⟩
end Go.Proofs.YtnoagleifffkcaaGreatDoor.tw

namespace Go.Proofs.YtnoagleifffkcaaGreatDoor.tw
open Lib (hid)
open Go.ChangeShapes Go.WideShapes Go.ChangeAt Go.RowKit
open tk (Tk)
open own
open nd (Nd Ints)
open ps (Ps posOk kidI top)
open spell (Held)
open et
set_option linter.unusedVariables false
set_option maxRecDepth 20000
theorem lst_succ(E:Nat→Ps→List Tk)(n:Nd)(J:Nat):lst E n (J+1)=lst E n J++(if J=0 then[]else[tok 36])++E (kd n J) top:=rfl
theorem lst_le(E:Nat→Ps→List Tk)(n:Nd)(J:Nat):∀d,(lst E n J).length≤(lst E n (J+d)).length:=by
 intro d
 induction d with
 |zero=>exact Nat.le_refl _
 |succ d ih=>
  refine Nat.le_trans ih ?_
  rw[←Nat.add_assoc,lst_succ,List.length_append,List.length_append]
  omega
theorem lst_to(E:Nat→Ps→List Tk)(n:Nd){J K:Nat}(h:J≤K):(lst E n J).length≤(lst E n K).length:=by
 obtain⟨d,rfl⟩:∃d,K=J+d:=⟨K-J,by omega⟩
 exact lst_le E n J d
def RelLi(w0:World)(a:Option Addr)(m cap:Nat)(fv v:Value)(ts:List Tk)(E:Nat→Ps→List Tk)(n:Nd)(f:Int)(w:World)(i:Value)(wr:World):Prop:=
 ∃(J:Nat) (v':Value),J≤n.kids.length∧i= .int .i64 (J:Int)∧St w0 a m cap fv v' (ts++(tok f::lst E n J)) wr∧Gr w0.heap.size v v' w wr
set_option maxHeartbeats 1600000 in
theorem list_any{w0:World}{a:Option Addr}{m cap:Nat}{fv:Value}{E:Nat→Ps→List Tk}{v:Value}{ts:List Tk}(n:Nd)(ak:Option Addr)(ck:Nat)(f g:Int)(w:World)(hh:Held w0)(hn:n.kids.length≤1048576)(hkd:∀K,K<n.kids.length→n.kids.getD K 0=(kd n K:Int))(hi:Ints w0.heap.size w0 ak n.kids)
  (hE:∀K,K<n.kids.length→CallE 27 w0 a m cap fv (kd n K) (E (kd n K))) (hst:St w0 a m cap fv v ts w) (hl:ts.length+(brack E n f g).length≤1048576):
  Calls Tryz.prog 205 #[.pointer (some ⟨w0.heap.size,0,none⟩),.agg #[.int .i64 n.k,.int .i64 n.op,.string n.s,.string n.t,.slice ak n.kids.length ck],.int .i64 f,.int .i64 g] w (Put w0 a m cap fv v ts (brack E n f g) w):=by
 have HH:=hid hh
 have HKD:=hid hkd
 have HI:=hid hi
 have HE:=hid hE
 have y:ts.length+(lst E n n.kids.length).length+2≤1048576:=by
  simp only[brack,List.length_cons,List.length_append,List.length_nil]at hl
  omega
 have HL:=hid y
 have HS:=hid (hst.alloc (.cells #[.int .i64 n.k,.int .i64 n.op,.string n.s,.string n.t,.slice ak n.kids.length ck] 57))
 have HG:=hid (show Gr w0.heap.size v v w (w.alloc (.cells #[.int .i64 n.k,.int .i64 n.op,.string n.s,.string n.t,.slice ak n.kids.length ck] 57))from Gr.quiet ((Below.refl _ _).alloc (Nat.le_refl _) _))
 have HB:=hid (show∀v' w',Gr w0.heap.size v v' (w.alloc (.cells #[.int .i64 n.k,.int .i64 n.op,.string n.s,.string n.t,.slice ak n.kids.length ck] 57)) w'→w'.cell? ⟨w.heap.size,4,none⟩=some (.slice ak n.kids.length ck)from fun v' w' hg=>by
  have hx:=hg.keep w.heap.size (by simp) (by have:=hst.lt;omega) (hst.new (Nat.le_refl _))
  rw[cell_of_row w' _ 4 _ _ _ (hx.trans (heap_alloc_new w (.cells #[.int .i64 n.k,.int .i64 n.op,.string n.s,.string n.t,.slice ak n.kids.length ck] 57)))];rfl)
 obtain⟨nk,hnk⟩:∃nk,n.kids.length=nk:=⟨_,rfl⟩
 have HNK:=hid hnk
 rw[hnk]at HL HS HG HB hn
 rw[hnk]
 clear hh hkd hi hE hl y hst hnk
 go_enter Tryz.func205,Tryz.ntmps205
 go_wp2_with fail
 refine(symbol_any HH.out f _ (by have:=HL.out;omega) HS.out).mono ?_
 rintro e w1 ⟨rfl,v1,s1,g1⟩
 have S1:=hid s1
 have G1:=hid (HG.trans g1)
 have c4:=HB.out v1 w1 g1
 clear s1 g1
 go_wp2
 go_loopw [16] (fun i wr=>RelLi w0 a m cap fv v ts E n f w i wr) (fun i _=>nk-(intOf i).toNat)
 case atStart=>exact⟨0,v1,by omega,rfl,S1.out,G1.out⟩
 case round=>
  obtain⟨J,v2,hJ,rfl,s2,g2⟩:=hrel
  have S2:=hid s2
  have G2:=hid g2
  rw[HNK.out]at hJ
  clear s2 g2
  by_cases hlt:J<nk
  ·have hltk:J<n.kids.length:=by have:=HNK.out;omega
   obtain⟨bk,ok,rfl,hbk,hkc⟩:=kid_cell HI.out S2.bel hltk (HKD.out J hltk)
   have hle:=lst_to E n (show J+1≤n.kids.length by omega)
   rw[lst_succ,List.length_append,List.length_append,HNK.out]at hle
   have G:(J:Int)<(nk:Int):=by omega
   have HEJ:=hid (HE.out J hltk)
   by_cases h0:J=0
   ·subst h0
    have j:=hid (show(ts++(tok f::lst E n 0)).length+(E (kd n 0) top).length≤1048576 by have:=HL.out;simp only[List.length_cons,List.length_append]at*;omega)
    simp only[Nat.add_zero]at hkc
    clear hle
    go_wp2_with fail
    refine(ps.impl_top _).mono ?_
    rintro e w3 ⟨rfl,b3⟩
    have S3:=hid (S2.keep b3)
    have G3:=hid (G2.trans (Gr.quiet b3))
    clear b3
    go_wp2_with fail
    refine(HEJ.out top top_ok _ _ _ S3.out j.out).mono ?_
    rintro e w4 ⟨rfl,v4,s4,g4⟩
    have S4:=hid s4
    have G4:=hid (G3.trans g4)
    clear s4 g4
    go_wp2
    go_roundw
    case rel=>
     refine⟨1,v4,by omega,rfl, ?_,G4.out⟩
     have:=S4.out
     rw[lst_succ]
     simpa only[List.append_assoc,List.cons_append,List.nil_append,if_pos,lst]using this
    case measure=>simp[intOf];omega
   ·have I:(0:Int)<(J:Int):=by omega
    rw[if_neg h0]at hle
    have F:=hid (show(ts++(tok f::lst E n J)).length≤1048576 by have:=HL.out;simp only[List.length_cons,List.length_append]at*;omega)
    have j:=hid (show((ts++(tok f::lst E n J))++[tok 36]).length+(E (kd n J) top).length≤1048576 by have:=HL.out;simp only[List.length_cons,List.length_append,List.length_nil]at*;omega)
    clear hle
    go_wp2_with fail
    refine(symbol_any HH.out 36 _ F.out S2.out).mono ?_
    rintro e w3 ⟨rfl,v3,s3,g3⟩
    have S3:=hid s3
    have G3:=hid (G2.trans g3)
    clear s3 g3
    go_wp2_with fail
    refine(ps.impl_top _).mono ?_
    rintro e w4 ⟨rfl,b4⟩
    have S4:=hid (S3.keep b4)
    have G4:=hid (G3.trans (Gr.quiet b4))
    clear b4
    go_wp2_with fail
    refine(HEJ.out top top_ok _ _ _ S4.out j.out).mono ?_
    rintro e w5 ⟨rfl,v5,s5,g5⟩
    have S5:=hid s5
    have G5:=hid (G4.trans g5)
    clear s5 g5
    go_wp2
    go_roundw
    case rel=>
     refine⟨J+1,v5,by omega,by go_num, ?_,G5.out⟩
     have:=S5.out
     rw[lst_succ,if_neg h0]
     simpa only[List.append_assoc,List.cons_append,List.nil_append]using this
    case measure=>simp[intOf];omega
  ·obtain rfl:J=nk:=by omega
   have j:=hid (show(ts++(tok f::lst E n J)).length≤1048576 by have:=HL.out;simp only[List.length_cons,List.length_append]at*;omega)
   go_wp2_with fail
   refine(symbol_any HH.out g _ j.out S2.out).mono ?_
   rintro e w3 ⟨rfl,v3,s3,g3⟩
   have S3:=hid s3
   have G3:=hid (G2.trans g3)
   clear s3 g3
   go_wp2
   go_end0
   refine⟨rfl,v3, ?_,G3.out⟩
   have:=S3.out
   unfold brack
   rw[HNK.out]
   simpa only[List.append_assoc,List.cons_append,List.nil_append]using this
end Go.Proofs.YtnoagleifffkcaaGreatDoor.tw

namespace Go.Proofs.YtnoagleifffkcaaGreatDoor.tw
open Lib (hid)
open Go.ChangeShapes Go.WideShapes Go.ChangeAt Go.RowKit
open tk (Tk)
open own
open nd (Nd Ints)
open ps (Ps posOk kidI top)
open spell (Held)
open et
set_option linter.unusedVariables false
set_option linter.unusedSimpArgs false
set_option maxRecDepth 20000
theorem kid_lit{w0:World}{a:Option Addr}{m cap:Nat}{fv:Value}{F:Nat→Ps→List Tk}{v:Value}{ts:List Tk}(n:Nd)(ak:Option Addr)(ck:Nat)(p:Ps)(K:Nat)(Ki:Int)(hKi:Ki=(K:Int))(hK:K<n.kids.length)(w:World)(hp:posOk p.l p.d=true)(hq:posOk (kp n K p).l (kp n K p).d=true)(hn:n.kids.length≤1048576)(hkd:n.kids.getD K 0=(kd n K:Int))(hi:Ints w0.heap.size w0 ak n.kids)
  (hE:CallE 27 w0 a m cap fv (kd n K) (F (kd n K))) (hst:St w0 a m cap fv v ts w) (hl:ts.length+(F (kd n K) (kp n Ki p)).length≤1048576):
  Calls Tryz.prog 206 #[.pointer (some ⟨w0.heap.size,0,none⟩),.agg #[.int .i64 n.k,.int .i64 n.op,.string n.s,.string n.t,.slice ak n.kids.length ck],.int .i64 Ki,.agg #[.int .i64 p.l,.bool p.d,.bool p.i,.bool p.g,.bool p.s]] w (Put w0 a m cap fv v ts (F (kd n K) (kp n Ki p)) w):=by
 subst hKi
 exact kid_any n ak ck p K hK w hp hq hn hkd hi hE hst hl
structure Giv(w0:World)(a:Option Addr)(m cap:Nat)(fv:Value)(l:List Nd)(i:Nat)(n:Nd)(ak:Option Addr)(p:Ps)(E U:Nat→Ps→List Tk):Prop where
 held:Held w0
 good:et.Good l i n
 row:Ints w0.heap.size w0 ak n.kids
 pos:posOk p.l p.d=true
 e:∀K,K<n.kids.length→CallE 27 w0 a m cap fv (kd n K) (E (kd n K))
 u:0<n.kids.length→CallE 53 w0 a m cap fv (kd n 0) (U (kd n 0))
theorem Giv.kp{w0:World}{a:Option Addr}{m cap:Nat}{fv:Value}{l:List Nd}{i:Nat}{n:Nd}{ak:Option Addr}{p:Ps}{E U:Nat→Ps→List Tk}(h:Giv w0 a m cap fv l i n ak p E U){K:Nat}(hK:K<n.kids.length):posOk (et.kp n K p).l (et.kp n K p).d=true:=(kp_ok h.good h.pos hK).1
theorem Giv.kd{w0:World}{a:Option Addr}{m cap:Nat}{fv:Value}{l:List Nd}{i:Nat}{n:Nd}{ak:Option Addr}{p:Ps}{E U:Nat→Ps→List Tk}(h:Giv w0 a m cap fv l i n ak p E U){K:Nat}(hK:K<n.kids.length):n.kids.getD K 0=(et.kd n K:Int):=(h.good.kids K hK).2.1
theorem Giv.len{w0:World}{a:Option Addr}{m cap:Nat}{fv:Value}{l:List Nd}{i:Nat}{n:Nd}{ak:Option Addr}{p:Ps}{E U:Nat→Ps→List Tk}(h:Giv w0 a m cap fv l i n ak p E U):n.kids.length≤1048576:=by have:=h.good.most;omega
set_option maxHeartbeats 1600000 in
theorem m_name{w0:World}{a:Option Addr}{m cap:Nat}{fv:Value}{l:List Nd}{i:Nat}{E U:Nat→Ps→List Tk}{v:Value}{ts:List Tk}(n:Nd)(ak:Option Addr)(ck:Nat)(p:Ps)(w:World)(hc:n.k=1)(hv:Giv w0 a m cap fv l i n ak p E U)(hst:St w0 a m cap fv v ts w)(hl:ts.length+(body E U n p).length≤1048576):
  Calls Tryz.prog 155 #[.pointer (some ⟨w0.heap.size,0,none⟩),.agg #[.int .i64 n.k,.int .i64 n.op,.string n.s,.string n.t,.slice ak n.kids.length ck],.agg #[.int .i64 p.l,.bool p.d,.bool p.i,.bool p.g,.bool p.s]] w (Put w0 a m cap fv v ts (body E U n p) w):=by
 obtain⟨x0,s0,g0⟩:=Fm.start hst n ak ck p
 obtain⟨c0,c1,c2,c3,c4,d0,d1,d2,d3,d4⟩:=x0.c
 have X0:=hid x0
 have S0:=hid s0
 have G0:=hid g0
 have HV:=hid hv
 rw[body_1 hc]at hl⊢
 clear x0 s0 g0 hv hst hc
 try simp only[List.length_append,List.length_cons,List.length_nil]at hl
 have L0:=hid (show(ts).length+([nam 6 n.s]).length≤1048576 by(try simp only[List.length_append,List.length_cons,List.length_nil]);omega)
 clear hl
 go_enter Tryz.func155,Tryz.ntmps155
 go_wp2_with fail
 refine(add_any 6 n.s _ (by have:=L0.out;omega) S0.out).mono ?_
 rintro e w1 ⟨rfl,v1,s1,g1⟩
 have X1:=hid (X0.on g1)
 have S1:=hid s1
 have G1:=hid (G0.trans g1)
 clear c0 c1 c2 c3 c4 d0 d1 d2 d3 d4 s1 g1
 go_wp2
 go_end0
 refine⟨rfl,v1, ?_,G1.out⟩
 have:=S1.out
 first|exact this|simpa only[List.append_assoc,List.cons_append,List.nil_append,nam]using this
set_option maxHeartbeats 1600000 in
theorem m_number{w0:World}{a:Option Addr}{m cap:Nat}{fv:Value}{l:List Nd}{i:Nat}{E U:Nat→Ps→List Tk}{v:Value}{ts:List Tk}(n:Nd)(ak:Option Addr)(ck:Nat)(p:Ps)(w:World)(hc:n.k=2)(hv:Giv w0 a m cap fv l i n ak p E U)(hst:St w0 a m cap fv v ts w)(hl:ts.length+(body E U n p).length≤1048576):
  Calls Tryz.prog 141 #[.pointer (some ⟨w0.heap.size,0,none⟩),.agg #[.int .i64 n.k,.int .i64 n.op,.string n.s,.string n.t,.slice ak n.kids.length ck],.agg #[.int .i64 p.l,.bool p.d,.bool p.i,.bool p.g,.bool p.s]] w (Put w0 a m cap fv v ts (body E U n p) w):=by
 obtain⟨x0,s0,g0⟩:=Fm.start hst n ak ck p
 obtain⟨c0,c1,c2,c3,c4,d0,d1,d2,d3,d4⟩:=x0.c
 have X0:=hid x0
 have S0:=hid s0
 have G0:=hid g0
 have HV:=hid hv
 rw[body_2 hc]at hl⊢
 clear x0 s0 g0 hv hst hc
 try simp only[List.length_append,List.length_cons,List.length_nil]at hl
 have L0:=hid (show(ts).length+([nam 3 n.s]).length≤1048576 by(try simp only[List.length_append,List.length_cons,List.length_nil]);omega)
 clear hl
 go_enter Tryz.func141,Tryz.ntmps141
 go_wp2_with fail
 refine(add_any 3 n.s _ (by have:=L0.out;omega) S0.out).mono ?_
 rintro e w1 ⟨rfl,v1,s1,g1⟩
 have X1:=hid (X0.on g1)
 have S1:=hid s1
 have G1:=hid (G0.trans g1)
 clear c0 c1 c2 c3 c4 d0 d1 d2 d3 d4 s1 g1
 go_wp2
 go_end0
 refine⟨rfl,v1, ?_,G1.out⟩
 have:=S1.out
 first|exact this|simpa only[List.append_assoc,List.cons_append,List.nil_append,nam]using this
set_option maxHeartbeats 1600000 in
theorem m_str{w0:World}{a:Option Addr}{m cap:Nat}{fv:Value}{l:List Nd}{i:Nat}{E U:Nat→Ps→List Tk}{v:Value}{ts:List Tk}(n:Nd)(ak:Option Addr)(ck:Nat)(p:Ps)(w:World)(hc:n.k=3)(hv:Giv w0 a m cap fv l i n ak p E U)(hst:St w0 a m cap fv v ts w)(hl:ts.length+(body E U n p).length≤1048576):
  Calls Tryz.prog 142 #[.pointer (some ⟨w0.heap.size,0,none⟩),.agg #[.int .i64 n.k,.int .i64 n.op,.string n.s,.string n.t,.slice ak n.kids.length ck],.agg #[.int .i64 p.l,.bool p.d,.bool p.i,.bool p.g,.bool p.s]] w (Put w0 a m cap fv v ts (body E U n p) w):=by
 obtain⟨x0,s0,g0⟩:=Fm.start hst n ak ck p
 obtain⟨c0,c1,c2,c3,c4,d0,d1,d2,d3,d4⟩:=x0.c
 have X0:=hid x0
 have S0:=hid s0
 have G0:=hid g0
 have HV:=hid hv
 rw[body_3 hc]at hl⊢
 clear x0 s0 g0 hv hst hc
 try simp only[List.length_append,List.length_cons,List.length_nil]at hl
 have L0:=hid (show(ts).length+([nam 4 n.s]).length≤1048576 by(try simp only[List.length_append,List.length_cons,List.length_nil]);omega)
 clear hl
 go_enter Tryz.func142,Tryz.ntmps142
 go_wp2_with fail
 refine(add_any 4 n.s _ (by have:=L0.out;omega) S0.out).mono ?_
 rintro e w1 ⟨rfl,v1,s1,g1⟩
 have X1:=hid (X0.on g1)
 have S1:=hid s1
 have G1:=hid (G0.trans g1)
 clear c0 c1 c2 c3 c4 d0 d1 d2 d3 d4 s1 g1
 go_wp2
 go_end0
 refine⟨rfl,v1, ?_,G1.out⟩
 have:=S1.out
 first|exact this|simpa only[List.append_assoc,List.cons_append,List.nil_append,nam]using this
set_option maxHeartbeats 1600000 in
theorem m_ere{w0:World}{a:Option Addr}{m cap:Nat}{fv:Value}{l:List Nd}{i:Nat}{E U:Nat→Ps→List Tk}{v:Value}{ts:List Tk}(n:Nd)(ak:Option Addr)(ck:Nat)(p:Ps)(w:World)(hc:n.k=4)(hv:Giv w0 a m cap fv l i n ak p E U)(hst:St w0 a m cap fv v ts w)(hl:ts.length+(body E U n p).length≤1048576):
  Calls Tryz.prog 143 #[.pointer (some ⟨w0.heap.size,0,none⟩),.agg #[.int .i64 n.k,.int .i64 n.op,.string n.s,.string n.t,.slice ak n.kids.length ck],.agg #[.int .i64 p.l,.bool p.d,.bool p.i,.bool p.g,.bool p.s]] w (Put w0 a m cap fv v ts (body E U n p) w):=by
 obtain⟨x0,s0,g0⟩:=Fm.start hst n ak ck p
 obtain⟨c0,c1,c2,c3,c4,d0,d1,d2,d3,d4⟩:=x0.c
 have X0:=hid x0
 have S0:=hid s0
 have G0:=hid g0
 have HV:=hid hv
 rw[body_4 hc]at hl⊢
 clear x0 s0 g0 hv hst hc
 try simp only[List.length_append,List.length_cons,List.length_nil]at hl
 have L0:=hid (show(ts).length+([nam 5 n.s]).length≤1048576 by(try simp only[List.length_append,List.length_cons,List.length_nil]);omega)
 clear hl
 go_enter Tryz.func143,Tryz.ntmps143
 go_wp2_with fail
 refine(add_any 5 n.s _ (by have:=L0.out;omega) S0.out).mono ?_
 rintro e w1 ⟨rfl,v1,s1,g1⟩
 have X1:=hid (X0.on g1)
 have S1:=hid s1
 have G1:=hid (G0.trans g1)
 clear c0 c1 c2 c3 c4 d0 d1 d2 d3 d4 s1 g1
 go_wp2
 go_end0
 refine⟨rfl,v1, ?_,G1.out⟩
 have:=S1.out
 first|exact this|simpa only[List.append_assoc,List.cons_append,List.nil_append,nam]using this
set_option maxHeartbeats 1600000 in
theorem m_index{w0:World}{a:Option Addr}{m cap:Nat}{fv:Value}{l:List Nd}{i:Nat}{E U:Nat→Ps→List Tk}{v:Value}{ts:List Tk}(n:Nd)(ak:Option Addr)(ck:Nat)(p:Ps)(w:World)(hc:n.k=5)(hv:Giv w0 a m cap fv l i n ak p E U)(hst:St w0 a m cap fv v ts w)(hl:ts.length+(body E U n p).length≤1048576):
  Calls Tryz.prog 144 #[.pointer (some ⟨w0.heap.size,0,none⟩),.agg #[.int .i64 n.k,.int .i64 n.op,.string n.s,.string n.t,.slice ak n.kids.length ck],.agg #[.int .i64 p.l,.bool p.d,.bool p.i,.bool p.g,.bool p.s]] w (Put w0 a m cap fv v ts (body E U n p) w):=by
 obtain⟨x0,s0,g0⟩:=Fm.start hst n ak ck p
 obtain⟨c0,c1,c2,c3,c4,d0,d1,d2,d3,d4⟩:=x0.c
 have X0:=hid x0
 have S0:=hid s0
 have G0:=hid g0
 have HV:=hid hv
 rw[body_5 hc]at hl⊢
 clear x0 s0 g0 hv hst hc
 try simp only[List.length_append,List.length_cons,List.length_nil]at hl
 have L0:=hid (show(ts).length+([nam 6 n.s]).length≤1048576 by(try simp only[List.length_append,List.length_cons,List.length_nil]);omega)
 have L1:=hid (show(ts++[nam 6 n.s]).length+(brack E n 34 35).length≤1048576 by(try simp only[List.length_append,List.length_cons,List.length_nil]);omega)
 clear hl
 go_enter Tryz.func144,Tryz.ntmps144
 go_wp2_with fail
 refine(add_any 6 n.s _ (by have:=L0.out;omega) S0.out).mono ?_
 rintro e w1 ⟨rfl,v1,s1,g1⟩
 have X1:=hid (X0.on g1)
 have S1:=hid s1
 have G1:=hid (G0.trans g1)
 clear c0 c1 c2 c3 c4 d0 d1 d2 d3 d4 s1 g1
 obtain⟨c0,c1,c2,c3,c4,d0,d1,d2,d3,d4⟩:=X1.c
 go_wp2_with fail
 refine(list_any (E:=E) n ak ck 34 35 _ HV.held HV.len (fun K hK=>HV.kd hK) HV.row HV.e S1.out L1.out).mono ?_
 rintro e w2 ⟨rfl,v2,s2,g2⟩
 have X2:=hid (X1.on g2)
 have S2:=hid s2
 have G2:=hid (G1.trans g2)
 clear c0 c1 c2 c3 c4 d0 d1 d2 d3 d4 s2 g2
 go_wp2
 go_end0
 refine⟨rfl,v2, ?_,G2.out⟩
 have:=S2.out
 first|exact this|simpa only[List.append_assoc,List.cons_append,List.nil_append,nam]using this
set_option maxHeartbeats 1600000 in
theorem m_field{w0:World}{a:Option Addr}{m cap:Nat}{fv:Value}{l:List Nd}{i:Nat}{E U:Nat→Ps→List Tk}{v:Value}{ts:List Tk}(n:Nd)(ak:Option Addr)(ck:Nat)(p:Ps)(w:World)(hc:n.k=6)(hv:Giv w0 a m cap fv l i n ak p E U)(hst:St w0 a m cap fv v ts w)(hl:ts.length+(body E U n p).length≤1048576):
  Calls Tryz.prog 145 #[.pointer (some ⟨w0.heap.size,0,none⟩),.agg #[.int .i64 n.k,.int .i64 n.op,.string n.s,.string n.t,.slice ak n.kids.length ck],.agg #[.int .i64 p.l,.bool p.d,.bool p.i,.bool p.g,.bool p.s]] w (Put w0 a m cap fv v ts (body E U n p) w):=by
 obtain⟨x0,s0,g0⟩:=Fm.start hst n ak ck p
 obtain⟨c0,c1,c2,c3,c4,d0,d1,d2,d3,d4⟩:=x0.c
 have X0:=hid x0
 have S0:=hid s0
 have G0:=hid g0
 have HV:=hid hv
 have HK:=hid (show n.kids.length=1 from hv.good.one (.inl hc))
 rw[body_6 hc]at hl⊢
 clear x0 s0 g0 hv hst hc
 try simp only[List.length_append,List.length_cons,List.length_nil]at hl
 have L0:=hid (show(ts).length+([tok 68]).length≤1048576 by(try simp only[List.length_append,List.length_cons,List.length_nil]);omega)
 have L1:=hid (show(ts++[tok 68]).length+(E (kd n 0) (kp n 0 p)).length≤1048576 by(try simp only[List.length_append,List.length_cons,List.length_nil]);omega)
 clear hl
 go_enter Tryz.func145,Tryz.ntmps145
 go_wp2_with fail
 refine(symbol_any HV.held 68 _ (by have:=L0.out;omega) S0.out).mono ?_
 rintro e w1 ⟨rfl,v1,s1,g1⟩
 have X1:=hid (X0.on g1)
 have S1:=hid s1
 have G1:=hid (G0.trans g1)
 clear c0 c1 c2 c3 c4 d0 d1 d2 d3 d4 s1 g1
 obtain⟨c0,c1,c2,c3,c4,d0,d1,d2,d3,d4⟩:=X1.c
 go_wp2_with fail
 refine(kid_lit (F:=E) n ak ck p 0 0 rfl (by have:=HK.out;omega) _ HV.pos (HV.kp (by have:=HK.out;omega)) HV.len (HV.kd (by have:=HK.out;omega)) HV.row (HV.e 0 (by have:=HK.out;omega)) S1.out L1.out).mono ?_
 rintro e w2 ⟨rfl,v2,s2,g2⟩
 have X2:=hid (X1.on g2)
 have S2:=hid s2
 have G2:=hid (G1.trans g2)
 clear c0 c1 c2 c3 c4 d0 d1 d2 d3 d4 s2 g2
 go_wp2
 go_end0
 refine⟨rfl,v2, ?_,G2.out⟩
 have:=S2.out
 first|exact this|simpa only[List.append_assoc,List.cons_append,List.nil_append,nam]using this
set_option maxHeartbeats 1600000 in
theorem m_call{w0:World}{a:Option Addr}{m cap:Nat}{fv:Value}{l:List Nd}{i:Nat}{E U:Nat→Ps→List Tk}{v:Value}{ts:List Tk}(n:Nd)(ak:Option Addr)(ck:Nat)(p:Ps)(w:World)(hc:n.k=7)(hv:Giv w0 a m cap fv l i n ak p E U)(hst:St w0 a m cap fv v ts w)(hl:ts.length+(body E U n p).length≤1048576):
  Calls Tryz.prog 146 #[.pointer (some ⟨w0.heap.size,0,none⟩),.agg #[.int .i64 n.k,.int .i64 n.op,.string n.s,.string n.t,.slice ak n.kids.length ck],.agg #[.int .i64 p.l,.bool p.d,.bool p.i,.bool p.g,.bool p.s]] w (Put w0 a m cap fv v ts (body E U n p) w):=by
 obtain⟨x0,s0,g0⟩:=Fm.start hst n ak ck p
 obtain⟨c0,c1,c2,c3,c4,d0,d1,d2,d3,d4⟩:=x0.c
 have X0:=hid x0
 have S0:=hid s0
 have G0:=hid g0
 have HV:=hid hv
 rw[body_7 hc]at hl⊢
 clear x0 s0 g0 hv hst hc
 try simp only[List.length_append,List.length_cons,List.length_nil]at hl
 have L0:=hid (show(ts).length+([nam 7 n.s]).length≤1048576 by(try simp only[List.length_append,List.length_cons,List.length_nil]);omega)
 have L1:=hid (show(ts++[nam 7 n.s]).length+(brack E n 32 33).length≤1048576 by(try simp only[List.length_append,List.length_cons,List.length_nil]);omega)
 clear hl
 go_enter Tryz.func146,Tryz.ntmps146
 go_wp2_with fail
 refine(add_any 7 n.s _ (by have:=L0.out;omega) S0.out).mono ?_
 rintro e w1 ⟨rfl,v1,s1,g1⟩
 have X1:=hid (X0.on g1)
 have S1:=hid s1
 have G1:=hid (G0.trans g1)
 clear c0 c1 c2 c3 c4 d0 d1 d2 d3 d4 s1 g1
 obtain⟨c0,c1,c2,c3,c4,d0,d1,d2,d3,d4⟩:=X1.c
 go_wp2_with fail
 refine(list_any (E:=E) n ak ck 32 33 _ HV.held HV.len (fun K hK=>HV.kd hK) HV.row HV.e S1.out L1.out).mono ?_
 rintro e w2 ⟨rfl,v2,s2,g2⟩
 have X2:=hid (X1.on g2)
 have S2:=hid s2
 have G2:=hid (G1.trans g2)
 clear c0 c1 c2 c3 c4 d0 d1 d2 d3 d4 s2 g2
 go_wp2
 go_end0
 refine⟨rfl,v2, ?_,G2.out⟩
 have:=S2.out
 first|exact this|simpa only[List.append_assoc,List.cons_append,List.nil_append,nam]using this
set_option maxHeartbeats 1600000 in
theorem m_builtin{w0:World}{a:Option Addr}{m cap:Nat}{fv:Value}{l:List Nd}{i:Nat}{E U:Nat→Ps→List Tk}{v:Value}{ts:List Tk}(n:Nd)(ak:Option Addr)(ck:Nat)(p:Ps)(w:World)(hc:n.k=8)(hv:Giv w0 a m cap fv l i n ak p E U)(hst:St w0 a m cap fv v ts w)(hl:ts.length+(body E U n p).length≤1048576):
  Calls Tryz.prog 147 #[.pointer (some ⟨w0.heap.size,0,none⟩),.agg #[.int .i64 n.k,.int .i64 n.op,.string n.s,.string n.t,.slice ak n.kids.length ck],.agg #[.int .i64 p.l,.bool p.d,.bool p.i,.bool p.g,.bool p.s]] w (Put w0 a m cap fv v ts (body E U n p) w):=by
 obtain⟨x0,s0,g0⟩:=Fm.start hst n ak ck p
 obtain⟨c0,c1,c2,c3,c4,d0,d1,d2,d3,d4⟩:=x0.c
 have X0:=hid x0
 have S0:=hid s0
 have G0:=hid g0
 have HV:=hid hv
 rw[body_8 hc]at hl⊢
 clear x0 s0 g0 hv hst hc
 try simp only[List.length_append,List.length_cons,List.length_nil]at hl
 have L0:=hid (show(ts).length+([nam 8 n.s]).length≤1048576 by(try simp only[List.length_append,List.length_cons,List.length_nil]);omega)
 have L1:=hid (show(ts++[nam 8 n.s]).length+(brack E n 32 33).length≤1048576 by(try simp only[List.length_append,List.length_cons,List.length_nil]);omega)
 clear hl
 go_enter Tryz.func147,Tryz.ntmps147
 go_wp2_with fail
 refine(add_any 8 n.s _ (by have:=L0.out;omega) S0.out).mono ?_
 rintro e w1 ⟨rfl,v1,s1,g1⟩
 have X1:=hid (X0.on g1)
 have S1:=hid s1
 have G1:=hid (G0.trans g1)
 clear c0 c1 c2 c3 c4 d0 d1 d2 d3 d4 s1 g1
 obtain⟨c0,c1,c2,c3,c4,d0,d1,d2,d3,d4⟩:=X1.c
 go_wp2_with fail
 refine(list_any (E:=E) n ak ck 32 33 _ HV.held HV.len (fun K hK=>HV.kd hK) HV.row HV.e S1.out L1.out).mono ?_
 rintro e w2 ⟨rfl,v2,s2,g2⟩
 have X2:=hid (X1.on g2)
 have S2:=hid s2
 have G2:=hid (G1.trans g2)
 clear c0 c1 c2 c3 c4 d0 d1 d2 d3 d4 s2 g2
 go_wp2
 go_end0
 refine⟨rfl,v2, ?_,G2.out⟩
 have:=S2.out
 first|exact this|simpa only[List.append_assoc,List.cons_append,List.nil_append,nam]using this
set_option maxHeartbeats 1600000 in
theorem m_pre{w0:World}{a:Option Addr}{m cap:Nat}{fv:Value}{l:List Nd}{i:Nat}{E U:Nat→Ps→List Tk}{v:Value}{ts:List Tk}(n:Nd)(ak:Option Addr)(ck:Nat)(p:Ps)(w:World)(hc:n.k=9)(hv:Giv w0 a m cap fv l i n ak p E U)(hst:St w0 a m cap fv v ts w)(hl:ts.length+(body E U n p).length≤1048576):
  Calls Tryz.prog 148 #[.pointer (some ⟨w0.heap.size,0,none⟩),.agg #[.int .i64 n.k,.int .i64 n.op,.string n.s,.string n.t,.slice ak n.kids.length ck],.agg #[.int .i64 p.l,.bool p.d,.bool p.i,.bool p.g,.bool p.s]] w (Put w0 a m cap fv v ts (body E U n p) w):=by
 obtain⟨x0,s0,g0⟩:=Fm.start hst n ak ck p
 obtain⟨c0,c1,c2,c3,c4,d0,d1,d2,d3,d4⟩:=x0.c
 have X0:=hid x0
 have S0:=hid s0
 have G0:=hid g0
 have HV:=hid hv
 have HK:=hid (show n.kids.length=1 from hv.good.one (.inr (.inl hc)))
 rw[body_9 hc]at hl⊢
 clear x0 s0 g0 hv hst hc
 try simp only[List.length_append,List.length_cons,List.length_nil]at hl
 have L0:=hid (show(ts).length+([tok n.op]).length≤1048576 by(try simp only[List.length_append,List.length_cons,List.length_nil]);omega)
 have L1:=hid (show(ts++[tok n.op]).length+(U (kd n 0) (kp n 0 p)).length≤1048576 by(try simp only[List.length_append,List.length_cons,List.length_nil]);omega)
 clear hl
 go_enter Tryz.func148,Tryz.ntmps148
 go_wp2_with fail
 refine(symbol_any HV.held n.op _ (by have:=L0.out;omega) S0.out).mono ?_
 rintro e w1 ⟨rfl,v1,s1,g1⟩
 have X1:=hid (X0.on g1)
 have S1:=hid s1
 have G1:=hid (G0.trans g1)
 clear c0 c1 c2 c3 c4 d0 d1 d2 d3 d4 s1 g1
 obtain⟨c0,c1,c2,c3,c4,d0,d1,d2,d3,d4⟩:=X1.c
 go_wp2_with fail
 refine(target_any (F:=U) n ak ck p (by have:=HK.out;omega) _ HV.pos (HV.kp (K:=0) (by have:=HK.out;omega)) HV.len (HV.kd (by have:=HK.out;omega)) HV.row (HV.u (by have:=HK.out;omega)) S1.out L1.out).mono ?_
 rintro e w2 ⟨rfl,v2,s2,g2⟩
 have X2:=hid (X1.on g2)
 have S2:=hid s2
 have G2:=hid (G1.trans g2)
 clear c0 c1 c2 c3 c4 d0 d1 d2 d3 d4 s2 g2
 go_wp2
 go_end0
 refine⟨rfl,v2, ?_,G2.out⟩
 have:=S2.out
 first|exact this|simpa only[List.append_assoc,List.cons_append,List.nil_append,nam]using this
set_option maxHeartbeats 1600000 in
theorem m_post{w0:World}{a:Option Addr}{m cap:Nat}{fv:Value}{l:List Nd}{i:Nat}{E U:Nat→Ps→List Tk}{v:Value}{ts:List Tk}(n:Nd)(ak:Option Addr)(ck:Nat)(p:Ps)(w:World)(hc:n.k=10)(hv:Giv w0 a m cap fv l i n ak p E U)(hst:St w0 a m cap fv v ts w)(hl:ts.length+(body E U n p).length≤1048576):
  Calls Tryz.prog 149 #[.pointer (some ⟨w0.heap.size,0,none⟩),.agg #[.int .i64 n.k,.int .i64 n.op,.string n.s,.string n.t,.slice ak n.kids.length ck],.agg #[.int .i64 p.l,.bool p.d,.bool p.i,.bool p.g,.bool p.s]] w (Put w0 a m cap fv v ts (body E U n p) w):=by
 obtain⟨x0,s0,g0⟩:=Fm.start hst n ak ck p
 obtain⟨c0,c1,c2,c3,c4,d0,d1,d2,d3,d4⟩:=x0.c
 have X0:=hid x0
 have S0:=hid s0
 have G0:=hid g0
 have HV:=hid hv
 have HK:=hid (show n.kids.length=1 from hv.good.one (.inr (.inr (.inl hc))))
 rw[body_10 hc]at hl⊢
 clear x0 s0 g0 hv hst hc
 try simp only[List.length_append,List.length_cons,List.length_nil]at hl
 have L0:=hid (show(ts).length+(U (kd n 0) (kp n 0 p)).length≤1048576 by(try simp only[List.length_append,List.length_cons,List.length_nil]);omega)
 have L1:=hid (show(ts++U (kd n 0) (kp n 0 p)).length+([tok n.op]).length≤1048576 by(try simp only[List.length_append,List.length_cons,List.length_nil]);omega)
 clear hl
 go_enter Tryz.func149,Tryz.ntmps149
 go_wp2_with fail
 refine(target_any (F:=U) n ak ck p (by have:=HK.out;omega) _ HV.pos (HV.kp (K:=0) (by have:=HK.out;omega)) HV.len (HV.kd (by have:=HK.out;omega)) HV.row (HV.u (by have:=HK.out;omega)) S0.out L0.out).mono ?_
 rintro e w1 ⟨rfl,v1,s1,g1⟩
 have X1:=hid (X0.on g1)
 have S1:=hid s1
 have G1:=hid (G0.trans g1)
 clear c0 c1 c2 c3 c4 d0 d1 d2 d3 d4 s1 g1
 obtain⟨c0,c1,c2,c3,c4,d0,d1,d2,d3,d4⟩:=X1.c
 go_wp2_with fail
 refine(symbol_any HV.held n.op _ (by have:=L1.out;omega) S1.out).mono ?_
 rintro e w2 ⟨rfl,v2,s2,g2⟩
 have X2:=hid (X1.on g2)
 have S2:=hid s2
 have G2:=hid (G1.trans g2)
 clear c0 c1 c2 c3 c4 d0 d1 d2 d3 d4 s2 g2
 go_wp2
 go_end0
 refine⟨rfl,v2, ?_,G2.out⟩
 have:=S2.out
 first|exact this|simpa only[List.append_assoc,List.cons_append,List.nil_append,nam]using this
set_option maxHeartbeats 1600000 in
theorem m_unary{w0:World}{a:Option Addr}{m cap:Nat}{fv:Value}{l:List Nd}{i:Nat}{E U:Nat→Ps→List Tk}{v:Value}{ts:List Tk}(n:Nd)(ak:Option Addr)(ck:Nat)(p:Ps)(w:World)(hc:n.k=11)(hv:Giv w0 a m cap fv l i n ak p E U)(hst:St w0 a m cap fv v ts w)(hl:ts.length+(body E U n p).length≤1048576):
  Calls Tryz.prog 150 #[.pointer (some ⟨w0.heap.size,0,none⟩),.agg #[.int .i64 n.k,.int .i64 n.op,.string n.s,.string n.t,.slice ak n.kids.length ck],.agg #[.int .i64 p.l,.bool p.d,.bool p.i,.bool p.g,.bool p.s]] w (Put w0 a m cap fv v ts (body E U n p) w):=by
 obtain⟨x0,s0,g0⟩:=Fm.start hst n ak ck p
 obtain⟨c0,c1,c2,c3,c4,d0,d1,d2,d3,d4⟩:=x0.c
 have X0:=hid x0
 have S0:=hid s0
 have G0:=hid g0
 have HV:=hid hv
 have HK:=hid (show n.kids.length=1 from hv.good.one (.inr (.inr (.inr hc))))
 rw[body_11 hc]at hl⊢
 clear x0 s0 g0 hv hst hc
 try simp only[List.length_append,List.length_cons,List.length_nil]at hl
 have L0:=hid (show(ts).length+([tok n.op]).length≤1048576 by(try simp only[List.length_append,List.length_cons,List.length_nil]);omega)
 have L1:=hid (show(ts++[tok n.op]).length+(E (kd n 0) (kp n 0 p)).length≤1048576 by(try simp only[List.length_append,List.length_cons,List.length_nil]);omega)
 clear hl
 go_enter Tryz.func150,Tryz.ntmps150
 go_wp2_with fail
 refine(symbol_any HV.held n.op _ (by have:=L0.out;omega) S0.out).mono ?_
 rintro e w1 ⟨rfl,v1,s1,g1⟩
 have X1:=hid (X0.on g1)
 have S1:=hid s1
 have G1:=hid (G0.trans g1)
 clear c0 c1 c2 c3 c4 d0 d1 d2 d3 d4 s1 g1
 obtain⟨c0,c1,c2,c3,c4,d0,d1,d2,d3,d4⟩:=X1.c
 go_wp2_with fail
 refine(kid_lit (F:=E) n ak ck p 0 0 rfl (by have:=HK.out;omega) _ HV.pos (HV.kp (by have:=HK.out;omega)) HV.len (HV.kd (by have:=HK.out;omega)) HV.row (HV.e 0 (by have:=HK.out;omega)) S1.out L1.out).mono ?_
 rintro e w2 ⟨rfl,v2,s2,g2⟩
 have X2:=hid (X1.on g2)
 have S2:=hid s2
 have G2:=hid (G1.trans g2)
 clear c0 c1 c2 c3 c4 d0 d1 d2 d3 d4 s2 g2
 go_wp2
 go_end0
 refine⟨rfl,v2, ?_,G2.out⟩
 have:=S2.out
 first|exact this|simpa only[List.append_assoc,List.cons_append,List.nil_append,nam]using this
set_option maxHeartbeats 1600000 in
theorem m_binary{w0:World}{a:Option Addr}{m cap:Nat}{fv:Value}{l:List Nd}{i:Nat}{E U:Nat→Ps→List Tk}{v:Value}{ts:List Tk}(n:Nd)(ak:Option Addr)(ck:Nat)(p:Ps)(w:World)(hc:n.k=12)(hv:Giv w0 a m cap fv l i n ak p E U)(hst:St w0 a m cap fv v ts w)(hl:ts.length+(body E U n p).length≤1048576):
  Calls Tryz.prog 151 #[.pointer (some ⟨w0.heap.size,0,none⟩),.agg #[.int .i64 n.k,.int .i64 n.op,.string n.s,.string n.t,.slice ak n.kids.length ck],.agg #[.int .i64 p.l,.bool p.d,.bool p.i,.bool p.g,.bool p.s]] w (Put w0 a m cap fv v ts (body E U n p) w):=by
 obtain⟨x0,s0,g0⟩:=Fm.start hst n ak ck p
 obtain⟨c0,c1,c2,c3,c4,d0,d1,d2,d3,d4⟩:=x0.c
 have X0:=hid x0
 have S0:=hid s0
 have G0:=hid g0
 have HV:=hid hv
 have HK:=hid (show n.kids.length=2 from hv.good.two (.inl hc))
 rw[body_12 hc]at hl⊢
 clear x0 s0 g0 hv hst hc
 by_cases hq:n.op=99
 ·rw[if_pos hq]at hl⊢
  obtain⟨q1,q2⟩:=rt.eq_facts hq
  try simp only[List.length_append,List.length_cons,List.length_nil]at hl
  have L0:=hid (show(ts).length+(E (kd n 0) (kp n 0 p)).length≤1048576 by(try simp only[List.length_append,List.length_cons,List.length_nil]);omega)
  have L1:=hid (show(ts++E (kd n 0) (kp n 0 p)).length+(E (kd n 1) (kp n 1 p)).length≤1048576 by(try simp only[List.length_append,List.length_cons,List.length_nil]);omega)
  clear hl hq
  go_enter Tryz.func151,Tryz.ntmps151
  go_wp2_with fail
  refine(kid_lit (F:=E) n ak ck p 0 0 rfl (by have:=HK.out;omega) _ HV.pos (HV.kp (by have:=HK.out;omega)) HV.len (HV.kd (by have:=HK.out;omega)) HV.row (HV.e 0 (by have:=HK.out;omega)) S0.out L0.out).mono ?_
  rintro e w1 ⟨rfl,v1,s1,g1⟩
  have X1:=hid (X0.on g1)
  have S1:=hid s1
  have G1:=hid (G0.trans g1)
  clear c0 c1 c2 c3 c4 d0 d1 d2 d3 d4 s1 g1
  obtain⟨c0,c1,c2,c3,c4,d0,d1,d2,d3,d4⟩:=X1.c
  go_wp2_with fail
  refine(kid_lit (F:=E) n ak ck p 1 1 rfl (by have:=HK.out;omega) _ HV.pos (HV.kp (by have:=HK.out;omega)) HV.len (HV.kd (by have:=HK.out;omega)) HV.row (HV.e 1 (by have:=HK.out;omega)) S1.out L1.out).mono ?_
  rintro e w2 ⟨rfl,v2,s2,g2⟩
  have X2:=hid (X1.on g2)
  have S2:=hid s2
  have G2:=hid (G1.trans g2)
  clear c0 c1 c2 c3 c4 d0 d1 d2 d3 d4 s2 g2
  go_wp2
  go_end0
  refine⟨rfl,v2, ?_,G2.out⟩
  have:=S2.out
  first|exact this|simpa only[List.append_assoc,List.cons_append,List.nil_append,nam]using this
 ·rw[if_neg hq]at hl⊢
  obtain⟨q1,q2⟩:=rt.ne_facts hq
  try simp only[List.length_append,List.length_cons,List.length_nil]at hl
  have L0:=hid (show(ts).length+(E (kd n 0) (kp n 0 p)).length≤1048576 by(try simp only[List.length_append,List.length_cons,List.length_nil]);omega)
  have L1:=hid (show(ts++E (kd n 0) (kp n 0 p)).length+([tok n.op]).length≤1048576 by(try simp only[List.length_append,List.length_cons,List.length_nil]);omega)
  have L2:=hid (show(ts++E (kd n 0) (kp n 0 p)++[tok n.op]).length+(E (kd n 1) (kp n 1 p)).length≤1048576 by(try simp only[List.length_append,List.length_cons,List.length_nil]);omega)
  clear hl hq
  go_enter Tryz.func151,Tryz.ntmps151
  go_wp2_with fail
  refine(kid_lit (F:=E) n ak ck p 0 0 rfl (by have:=HK.out;omega) _ HV.pos (HV.kp (by have:=HK.out;omega)) HV.len (HV.kd (by have:=HK.out;omega)) HV.row (HV.e 0 (by have:=HK.out;omega)) S0.out L0.out).mono ?_
  rintro e w1 ⟨rfl,v1,s1,g1⟩
  have X1:=hid (X0.on g1)
  have S1:=hid s1
  have G1:=hid (G0.trans g1)
  clear c0 c1 c2 c3 c4 d0 d1 d2 d3 d4 s1 g1
  obtain⟨c0,c1,c2,c3,c4,d0,d1,d2,d3,d4⟩:=X1.c
  go_wp2_with fail
  refine(symbol_any HV.held n.op _ (by have:=L1.out;omega) S1.out).mono ?_
  rintro e w2 ⟨rfl,v2,s2,g2⟩
  have X2:=hid (X1.on g2)
  have S2:=hid s2
  have G2:=hid (G1.trans g2)
  clear c0 c1 c2 c3 c4 d0 d1 d2 d3 d4 s2 g2
  obtain⟨c0,c1,c2,c3,c4,d0,d1,d2,d3,d4⟩:=X2.c
  go_wp2_with fail
  refine(kid_lit (F:=E) n ak ck p 1 1 rfl (by have:=HK.out;omega) _ HV.pos (HV.kp (by have:=HK.out;omega)) HV.len (HV.kd (by have:=HK.out;omega)) HV.row (HV.e 1 (by have:=HK.out;omega)) S2.out L2.out).mono ?_
  rintro e w3 ⟨rfl,v3,s3,g3⟩
  have X3:=hid (X2.on g3)
  have S3:=hid s3
  have G3:=hid (G2.trans g3)
  clear c0 c1 c2 c3 c4 d0 d1 d2 d3 d4 s3 g3
  go_wp2
  go_end0
  refine⟨rfl,v3, ?_,G3.out⟩
  have:=S3.out
  first|exact this|simpa only[List.append_assoc,List.cons_append,List.nil_append,nam]using this
set_option maxHeartbeats 1600000 in
theorem m_in{w0:World}{a:Option Addr}{m cap:Nat}{fv:Value}{l:List Nd}{i:Nat}{E U:Nat→Ps→List Tk}{v:Value}{ts:List Tk}(n:Nd)(ak:Option Addr)(ck:Nat)(p:Ps)(w:World)(hc:n.k=13)(hv:Giv w0 a m cap fv l i n ak p E U)(hst:St w0 a m cap fv v ts w)(hl:ts.length+(body E U n p).length≤1048576):
  Calls Tryz.prog 152 #[.pointer (some ⟨w0.heap.size,0,none⟩),.agg #[.int .i64 n.k,.int .i64 n.op,.string n.s,.string n.t,.slice ak n.kids.length ck],.agg #[.int .i64 p.l,.bool p.d,.bool p.i,.bool p.g,.bool p.s]] w (Put w0 a m cap fv v ts (body E U n p) w):=by
 obtain⟨x0,s0,g0⟩:=Fm.start hst n ak ck p
 obtain⟨c0,c1,c2,c3,c4,d0,d1,d2,d3,d4⟩:=x0.c
 have X0:=hid x0
 have S0:=hid s0
 have G0:=hid g0
 have HV:=hid hv
 have HK:=hid (hv.good.least (.inr hc))
 rw[body_13 hc]at hl⊢
 clear x0 s0 g0 hv hst hc
 by_cases hq:1<n.kids.length
 ·rw[if_pos hq]at hl⊢
  have q1:(1:Int)<(n.kids.length:Int):=by omega
  have q3:n.kids.length≤1048576:=HV.len
  try simp only[List.length_append,List.length_cons,List.length_nil]at hl
  have L0:=hid (show(ts).length+(brack E n 32 33).length≤1048576 by(try simp only[List.length_append,List.length_cons,List.length_nil]);omega)
  have L1:=hid (show(ts++brack E n 32 33).length+([tok 24]).length≤1048576 by(try simp only[List.length_append,List.length_cons,List.length_nil]);omega)
  have L2:=hid (show(ts++brack E n 32 33++[tok 24]).length+([nam 6 n.s]).length≤1048576 by(try simp only[List.length_append,List.length_cons,List.length_nil]);omega)
  clear hl hq
  go_enter Tryz.func152,Tryz.ntmps152
  go_wp2_with fail
  refine(list_any (E:=E) n ak ck 32 33 _ HV.held HV.len (fun K hK=>HV.kd hK) HV.row HV.e S0.out L0.out).mono ?_
  rintro e w1 ⟨rfl,v1,s1,g1⟩
  have X1:=hid (X0.on g1)
  have S1:=hid s1
  have G1:=hid (G0.trans g1)
  clear c0 c1 c2 c3 c4 d0 d1 d2 d3 d4 s1 g1
  obtain⟨c0,c1,c2,c3,c4,d0,d1,d2,d3,d4⟩:=X1.c
  go_wp2_with fail
  refine(symbol_any HV.held 24 _ (by have:=L1.out;omega) S1.out).mono ?_
  rintro e w2 ⟨rfl,v2,s2,g2⟩
  have X2:=hid (X1.on g2)
  have S2:=hid s2
  have G2:=hid (G1.trans g2)
  clear c0 c1 c2 c3 c4 d0 d1 d2 d3 d4 s2 g2
  obtain⟨c0,c1,c2,c3,c4,d0,d1,d2,d3,d4⟩:=X2.c
  go_wp2_with fail
  refine(add_any 6 n.s _ (by have:=L2.out;omega) S2.out).mono ?_
  rintro e w3 ⟨rfl,v3,s3,g3⟩
  have X3:=hid (X2.on g3)
  have S3:=hid s3
  have G3:=hid (G2.trans g3)
  clear c0 c1 c2 c3 c4 d0 d1 d2 d3 d4 s3 g3
  go_wp2
  go_end0
  refine⟨rfl,v3, ?_,G3.out⟩
  have:=S3.out
  first|exact this|simpa only[List.append_assoc,List.cons_append,List.nil_append,nam]using this
 ·rw[if_neg hq]at hl⊢
  have q1:¬(1:Int)<(n.kids.length:Int):=by omega
  have q3:n.kids.length≤1048576:=HV.len
  try simp only[List.length_append,List.length_cons,List.length_nil]at hl
  have L0:=hid (show(ts).length+(E (kd n 0) (kp n 0 p)).length≤1048576 by(try simp only[List.length_append,List.length_cons,List.length_nil]);omega)
  have L1:=hid (show(ts++E (kd n 0) (kp n 0 p)).length+([tok 24]).length≤1048576 by(try simp only[List.length_append,List.length_cons,List.length_nil]);omega)
  have L2:=hid (show(ts++E (kd n 0) (kp n 0 p)++[tok 24]).length+([nam 6 n.s]).length≤1048576 by(try simp only[List.length_append,List.length_cons,List.length_nil]);omega)
  clear hl hq
  go_enter Tryz.func152,Tryz.ntmps152
  go_wp2_with fail
  refine(kid_lit (F:=E) n ak ck p 0 0 rfl (by have:=HK.out;omega) _ HV.pos (HV.kp (by have:=HK.out;omega)) HV.len (HV.kd (by have:=HK.out;omega)) HV.row (HV.e 0 (by have:=HK.out;omega)) S0.out L0.out).mono ?_
  rintro e w1 ⟨rfl,v1,s1,g1⟩
  have X1:=hid (X0.on g1)
  have S1:=hid s1
  have G1:=hid (G0.trans g1)
  clear c0 c1 c2 c3 c4 d0 d1 d2 d3 d4 s1 g1
  obtain⟨c0,c1,c2,c3,c4,d0,d1,d2,d3,d4⟩:=X1.c
  go_wp2_with fail
  refine(symbol_any HV.held 24 _ (by have:=L1.out;omega) S1.out).mono ?_
  rintro e w2 ⟨rfl,v2,s2,g2⟩
  have X2:=hid (X1.on g2)
  have S2:=hid s2
  have G2:=hid (G1.trans g2)
  clear c0 c1 c2 c3 c4 d0 d1 d2 d3 d4 s2 g2
  obtain⟨c0,c1,c2,c3,c4,d0,d1,d2,d3,d4⟩:=X2.c
  go_wp2_with fail
  refine(add_any 6 n.s _ (by have:=L2.out;omega) S2.out).mono ?_
  rintro e w3 ⟨rfl,v3,s3,g3⟩
  have X3:=hid (X2.on g3)
  have S3:=hid s3
  have G3:=hid (G2.trans g3)
  clear c0 c1 c2 c3 c4 d0 d1 d2 d3 d4 s3 g3
  go_wp2
  go_end0
  refine⟨rfl,v3, ?_,G3.out⟩
  have:=S3.out
  first|exact this|simpa only[List.append_assoc,List.cons_append,List.nil_append,nam]using this
set_option maxHeartbeats 1600000 in
theorem m_cond{w0:World}{a:Option Addr}{m cap:Nat}{fv:Value}{l:List Nd}{i:Nat}{E U:Nat→Ps→List Tk}{v:Value}{ts:List Tk}(n:Nd)(ak:Option Addr)(ck:Nat)(p:Ps)(w:World)(hc:n.k=14)(hv:Giv w0 a m cap fv l i n ak p E U)(hst:St w0 a m cap fv v ts w)(hl:ts.length+(body E U n p).length≤1048576):
  Calls Tryz.prog 153 #[.pointer (some ⟨w0.heap.size,0,none⟩),.agg #[.int .i64 n.k,.int .i64 n.op,.string n.s,.string n.t,.slice ak n.kids.length ck],.agg #[.int .i64 p.l,.bool p.d,.bool p.i,.bool p.g,.bool p.s]] w (Put w0 a m cap fv v ts (body E U n p) w):=by
 obtain⟨x0,s0,g0⟩:=Fm.start hst n ak ck p
 obtain⟨c0,c1,c2,c3,c4,d0,d1,d2,d3,d4⟩:=x0.c
 have X0:=hid x0
 have S0:=hid s0
 have G0:=hid g0
 have HV:=hid hv
 have HK:=hid (show n.kids.length=3 from hv.good.three hc)
 rw[body_14 hc]at hl⊢
 clear x0 s0 g0 hv hst hc
 try simp only[List.length_append,List.length_cons,List.length_nil]at hl
 have L0:=hid (show(ts).length+(E (kd n 0) (kp n 0 p)).length≤1048576 by(try simp only[List.length_append,List.length_cons,List.length_nil]);omega)
 have L1:=hid (show(ts++E (kd n 0) (kp n 0 p)).length+([tok 65]).length≤1048576 by(try simp only[List.length_append,List.length_cons,List.length_nil]);omega)
 have L2:=hid (show(ts++E (kd n 0) (kp n 0 p)++[tok 65]).length+(E (kd n 1) (kp n 1 p)).length≤1048576 by(try simp only[List.length_append,List.length_cons,List.length_nil]);omega)
 have L3:=hid (show(ts++E (kd n 0) (kp n 0 p)++[tok 65]++E (kd n 1) (kp n 1 p)).length+([tok 66]).length≤1048576 by(try simp only[List.length_append,List.length_cons,List.length_nil]);omega)
 have L4:=hid (show(ts++E (kd n 0) (kp n 0 p)++[tok 65]++E (kd n 1) (kp n 1 p)++[tok 66]).length+(E (kd n 2) (kp n 2 p)).length≤1048576 by(try simp only[List.length_append,List.length_cons,List.length_nil]);omega)
 clear hl
 go_enter Tryz.func153,Tryz.ntmps153
 go_wp2_with fail
 refine(kid_lit (F:=E) n ak ck p 0 0 rfl (by have:=HK.out;omega) _ HV.pos (HV.kp (by have:=HK.out;omega)) HV.len (HV.kd (by have:=HK.out;omega)) HV.row (HV.e 0 (by have:=HK.out;omega)) S0.out L0.out).mono ?_
 rintro e w1 ⟨rfl,v1,s1,g1⟩
 have X1:=hid (X0.on g1)
 have S1:=hid s1
 have G1:=hid (G0.trans g1)
 clear c0 c1 c2 c3 c4 d0 d1 d2 d3 d4 s1 g1
 obtain⟨c0,c1,c2,c3,c4,d0,d1,d2,d3,d4⟩:=X1.c
 go_wp2_with fail
 refine(symbol_any HV.held 65 _ (by have:=L1.out;omega) S1.out).mono ?_
 rintro e w2 ⟨rfl,v2,s2,g2⟩
 have X2:=hid (X1.on g2)
 have S2:=hid s2
 have G2:=hid (G1.trans g2)
 clear c0 c1 c2 c3 c4 d0 d1 d2 d3 d4 s2 g2
 obtain⟨c0,c1,c2,c3,c4,d0,d1,d2,d3,d4⟩:=X2.c
 go_wp2_with fail
 refine(kid_lit (F:=E) n ak ck p 1 1 rfl (by have:=HK.out;omega) _ HV.pos (HV.kp (by have:=HK.out;omega)) HV.len (HV.kd (by have:=HK.out;omega)) HV.row (HV.e 1 (by have:=HK.out;omega)) S2.out L2.out).mono ?_
 rintro e w3 ⟨rfl,v3,s3,g3⟩
 have X3:=hid (X2.on g3)
 have S3:=hid s3
 have G3:=hid (G2.trans g3)
 clear c0 c1 c2 c3 c4 d0 d1 d2 d3 d4 s3 g3
 obtain⟨c0,c1,c2,c3,c4,d0,d1,d2,d3,d4⟩:=X3.c
 go_wp2_with fail
 refine(symbol_any HV.held 66 _ (by have:=L3.out;omega) S3.out).mono ?_
 rintro e w4 ⟨rfl,v4,s4,g4⟩
 have X4:=hid (X3.on g4)
 have S4:=hid s4
 have G4:=hid (G3.trans g4)
 clear c0 c1 c2 c3 c4 d0 d1 d2 d3 d4 s4 g4
 obtain⟨c0,c1,c2,c3,c4,d0,d1,d2,d3,d4⟩:=X4.c
 go_wp2_with fail
 refine(kid_lit (F:=E) n ak ck p 2 2 rfl (by have:=HK.out;omega) _ HV.pos (HV.kp (by have:=HK.out;omega)) HV.len (HV.kd (by have:=HK.out;omega)) HV.row (HV.e 2 (by have:=HK.out;omega)) S4.out L4.out).mono ?_
 rintro e w5 ⟨rfl,v5,s5,g5⟩
 have X5:=hid (X4.on g5)
 have S5:=hid s5
 have G5:=hid (G4.trans g5)
 clear c0 c1 c2 c3 c4 d0 d1 d2 d3 d4 s5 g5
 go_wp2
 go_end0
 refine⟨rfl,v5, ?_,G5.out⟩
 have:=S5.out
 first|exact this|simpa only[List.append_assoc,List.cons_append,List.nil_append,nam]using this
set_option maxHeartbeats 1600000 in
theorem m_assign{w0:World}{a:Option Addr}{m cap:Nat}{fv:Value}{l:List Nd}{i:Nat}{E U:Nat→Ps→List Tk}{v:Value}{ts:List Tk}(n:Nd)(ak:Option Addr)(ck:Nat)(p:Ps)(w:World)(hc:n.k=15)(hv:Giv w0 a m cap fv l i n ak p E U)(hst:St w0 a m cap fv v ts w)(hl:ts.length+(body E U n p).length≤1048576):
  Calls Tryz.prog 154 #[.pointer (some ⟨w0.heap.size,0,none⟩),.agg #[.int .i64 n.k,.int .i64 n.op,.string n.s,.string n.t,.slice ak n.kids.length ck],.agg #[.int .i64 p.l,.bool p.d,.bool p.i,.bool p.g,.bool p.s]] w (Put w0 a m cap fv v ts (body E U n p) w):=by
 obtain⟨x0,s0,g0⟩:=Fm.start hst n ak ck p
 obtain⟨c0,c1,c2,c3,c4,d0,d1,d2,d3,d4⟩:=x0.c
 have X0:=hid x0
 have S0:=hid s0
 have G0:=hid g0
 have HV:=hid hv
 have HK:=hid (show n.kids.length=2 from hv.good.two (.inr hc))
 rw[body_15 hc]at hl⊢
 clear x0 s0 g0 hv hst hc
 try simp only[List.length_append,List.length_cons,List.length_nil]at hl
 have L0:=hid (show(ts).length+(U (kd n 0) (kp n 0 p)).length≤1048576 by(try simp only[List.length_append,List.length_cons,List.length_nil]);omega)
 have L1:=hid (show(ts++U (kd n 0) (kp n 0 p)).length+([tok n.op]).length≤1048576 by(try simp only[List.length_append,List.length_cons,List.length_nil]);omega)
 have L2:=hid (show(ts++U (kd n 0) (kp n 0 p)++[tok n.op]).length+(E (kd n 1) (kp n 1 p)).length≤1048576 by(try simp only[List.length_append,List.length_cons,List.length_nil]);omega)
 clear hl
 go_enter Tryz.func154,Tryz.ntmps154
 go_wp2_with fail
 refine(target_any (F:=U) n ak ck p (by have:=HK.out;omega) _ HV.pos (HV.kp (K:=0) (by have:=HK.out;omega)) HV.len (HV.kd (by have:=HK.out;omega)) HV.row (HV.u (by have:=HK.out;omega)) S0.out L0.out).mono ?_
 rintro e w1 ⟨rfl,v1,s1,g1⟩
 have X1:=hid (X0.on g1)
 have S1:=hid s1
 have G1:=hid (G0.trans g1)
 clear c0 c1 c2 c3 c4 d0 d1 d2 d3 d4 s1 g1
 obtain⟨c0,c1,c2,c3,c4,d0,d1,d2,d3,d4⟩:=X1.c
 go_wp2_with fail
 refine(symbol_any HV.held n.op _ (by have:=L1.out;omega) S1.out).mono ?_
 rintro e w2 ⟨rfl,v2,s2,g2⟩
 have X2:=hid (X1.on g2)
 have S2:=hid s2
 have G2:=hid (G1.trans g2)
 clear c0 c1 c2 c3 c4 d0 d1 d2 d3 d4 s2 g2
 obtain⟨c0,c1,c2,c3,c4,d0,d1,d2,d3,d4⟩:=X2.c
 go_wp2_with fail
 refine(kid_lit (F:=E) n ak ck p 1 1 rfl (by have:=HK.out;omega) _ HV.pos (HV.kp (by have:=HK.out;omega)) HV.len (HV.kd (by have:=HK.out;omega)) HV.row (HV.e 1 (by have:=HK.out;omega)) S2.out L2.out).mono ?_
 rintro e w3 ⟨rfl,v3,s3,g3⟩
 have X3:=hid (X2.on g3)
 have S3:=hid s3
 have G3:=hid (G2.trans g3)
 clear c0 c1 c2 c3 c4 d0 d1 d2 d3 d4 s3 g3
 go_wp2
 go_end0
 refine⟨rfl,v3, ?_,G3.out⟩
 have:=S3.out
 first|exact this|simpa only[List.append_assoc,List.cons_append,List.nil_append,nam]using this
end Go.Proofs.YtnoagleifffkcaaGreatDoor.tw
