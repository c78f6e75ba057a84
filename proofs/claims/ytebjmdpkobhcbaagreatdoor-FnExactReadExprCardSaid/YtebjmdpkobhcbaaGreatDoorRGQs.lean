/- A part. -/
import Derived.Test.YtebjmdpkobhcbaaGreatDoorRGPs
import Derived.Test.YtebjmdpkobhcbaaGreatDoorRPeImpl
import Derived.Test.YtebjmdpkobhcbaaGreatDoorRGOw
import Derived.Test.YtebjmdpkobhcbaaGreatDoorRRight
import Derived.Test.YtebjmdpkobhcbaaGreatDoorRGKd
import Derived.Test.YtebjmdpkobhcbaaGreatDoorRLevel
import Derived.Test.YtebjmdpkobhcbaaGreatDoorRGMk
import Derived.Deep.AppendLies
import Derived.Laws.AppendOwnNone
namespace Go.Proofs.YtebjmdpkobhcbaaGreatDoor.qs
open Lib (hid)
open Go.ChangeShapes Go.WideShapes Go.ChangeAt Go.RowKit
open tk (Tk)
open nd (Nd PT KidV makeT)
open ps (Ps posOk)
open pe
open pr (Bk Gr X0 below_drewN eq_facts ne_facts fld_k fld_s)
set_option linter.unusedVariables false
set_option linter.unusedSimpArgs false
set_option maxRecDepth 20000
theorem Bk.c4{g:Nat}{ty:TypeId}{w:World}{x0 x1 x2 x3:Value}(h:Bk g #[x0,x1,x2,x3] ty w):w.cell? ⟨g,0,none⟩=some x0/\w.cell? ⟨g,1,none⟩=some x1/\w.cell? ⟨g,2,none⟩=some x2/\w.cell? ⟨g,3,none⟩=some x3:=
 ⟨by rw[cell_of_row w g 0 _ _ _ h];rfl,by rw[cell_of_row w g 1 _ _ _ h];rfl,by rw[cell_of_row w g 2 _ _ _ h];rfl,by rw[cell_of_row w g 3 _ _ _ h];rfl⟩
structure Sq(w0:World)(l:List Tk)(a:Option Addr)(cap:Nat)(N0:List Tk)(s:Nat)(j:Nat)(bd:Bool)(v:Value)(w:World):Prop where
 bel:Below w0.heap.size w0 w
 box:Bk w0.heap.size #[.slice a l.length cap,.int .i64 (j:Int),.bool bd,v] 93 w
 own:own.Own (w0.heap.size+1) v (N0++cms l s j) w
 le:s<=j
 jn:j<=l.length
structure Mq(b g:Nat)(c:Array Value)(ty:TypeId)(v:Value)(w:World):Prop where
 bk:Bk g c ty w
 b:b<g
 o:some g≠v.ownBlock
def Tq(b B:Nat)(T:Value)(t:List Nd)(v:Value)(w:World):Prop:=
 b<B/\∃z r,PT B T z r w/\z.map (·.1)=t/\(∀j,j<z.length->B<=r j)/\∀g,v.ownBlock=some g->T.ownBlock≠some g/\∀j,j<z.length->r j≠g
theorem pt_same{B:Nat}{T:Value}{z:List (Nd×Value)}{r:Nat->Nat}{w w':World}(h:PT B T z r w)(hs:w.heap.size<=w'.heap.size)(h1:∀g,T.ownBlock=some g->w'.heap[g]? =w.heap[g]?)(h2:∀j,j<z.length->w'.heap[r j]? =w.heap[r j]?):PT B T z r w':=by
 refine⟨⟨h.own.1,h.own.2.elim .inl (fun⟨g,cap,cur,hv,hg,hblk,q⟩=> .inr ⟨g,cap,cur,hv,hg, ?_,q⟩)⟩,fun j hj=>(h.kid j hj).keep (h2 j hj),h.off,h.asc,fun j hj=>Nat.lt_of_lt_of_le (h.lt j hj) hs⟩
 rw[h1 g (by rw[hv];rfl)]
 exact hblk
section
variable {w0:World} {l:List Tk} {a:Option Addr} {cap:Nat} {N0:List Tk} {s j:Nat} {bd:Bool} {v v':Value} {w w':World} {b g B:Nat} {cs:Array Value} {ty:TypeId} {T:Value} {t:List Nd}
theorem Sq.lt(h:Sq w0 l a cap N0 s j bd v w):w0.heap.size<w.heap.size:=h.box.lt
theorem Sq.keep(h:Sq w0 l a cap N0 s j bd v w)(hb:Below w.heap.size w w'):Sq w0 l a cap N0 s j bd v w':=
 ⟨h.bel.trans (hb.mono h.bel.size),h.box.keep hb,h.own.keep hb (Nat.le_refl _),h.le,h.jn⟩
theorem Sq.alloc(h:Sq w0 l a cap N0 s j bd v w)(o:Obj):Sq w0 l a cap N0 s j bd v (w.alloc o):=h.keep ((Below.refl _ _).alloc (Nat.le_refl _) _)
theorem Sq.drew(h:Sq w0 l a cap N0 s j bd v w):Sq w0 l a cap N0 s j bd v w.drew:=h.keep ((Below.refl _ _).drew)
theorem Sq.drewN(h:Sq w0 l a cap N0 s j bd v w)(m:Nat):Sq w0 l a cap N0 s j bd v (w.drewN m):=h.keep (below_drewN (Below.refl _ _) m)
theorem Sq.c(h:Sq w0 l a cap N0 s j bd v w):w.cell? ⟨w0.heap.size,0,none⟩=some (.slice a l.length cap)/\w.cell? ⟨w0.heap.size,1,none⟩=some (.int .i64 (j:Int))/\w.cell? ⟨w0.heap.size,2,none⟩=some (.bool bd)/\w.cell? ⟨w0.heap.size,3,none⟩=some v:=Bk.c4 h.box
theorem Sq.f(h:Sq w0 l a cap N0 s j bd v w)(k:Nat):w.frozen? ⟨w0.heap.size,k,none⟩=false:=h.box.f k
theorem Sq.not_box(h:Sq w0 l a cap N0 s j bd v w):some w0.heap.size≠v.ownBlock:=fun e=>by have:=(World.ownsRow.lt h.own _ e.symm).1;omega
theorem Sq.new(h:Sq w0 l a cap N0 s j bd v w){g:Nat}(hg:w.heap.size<=g):some g≠v.ownBlock:=fun e=>by have:=(World.ownsRow.lt h.own _ e.symm).2;omega
theorem Sq.own_set(h:Sq w0 l a cap N0 s j bd v w)(k:Nat)(u:Value):own.Own (w0.heap.size+1) v (N0++cms l s j) (w.setCell ⟨w0.heap.size,k,none⟩ u):=h.own.setOther (fun e=>h.not_box e.symm) u
theorem Sq.next(h:Sq w0 l a cap N0 s j bd v w)(hj:j<l.length)(hk:¬kd l j=2):Sq w0 l a cap N0 s (j+1) bd v (w.setCell ⟨w0.heap.size,1,none⟩ (.int .i64 ((j:Int)+1))):=by
 refine⟨h.bel.setCell (p:=⟨w0.heap.size,1,none⟩) (Nat.le_refl _) _, ?_, ?_,by have:=h.le;omega,hj⟩
 ·have:=h.box.set 1 (.int .i64 ((j:Int)+1))
  rw[show((j+1:Nat):Int)=(j:Int)+1 by omega]
  exact this
 ·rw[<-cms_trans h.le (Nat.le_succ j),cms_one hk,List.append_nil]
  exact h.own_set 1 _
theorem Sq.bad(h:Sq w0 l a cap N0 s j bd v w):Sq w0 l a cap N0 s j true v (w.setCell ⟨w0.heap.size,2,none⟩ (.bool true)):=
 ⟨h.bel.setCell (p:=⟨w0.heap.size,2,none⟩) (Nat.le_refl _) _,h.box.set 2 _,h.own_set 2 _,h.le,h.jn⟩
theorem Sq.mset(h:Sq w0 l a cap N0 s j bd v w)(m:Mq w0.heap.size g cs ty v w)(k:Nat)(u:Value):Sq w0 l a cap N0 s j bd v (w.setCell ⟨g,k,none⟩ u):=
 ⟨h.bel.setCell (p:=⟨g,k,none⟩) (Nat.le_of_lt m.b) _,h.box.oth (by have:=m.b;omega) k u,h.own.setOther (fun e=>m.o e.symm) u,h.le,h.jn⟩
theorem Gr.box(hX:X0 w0.heap.size w0.heap.size)(k:Nat)(u:Value):Gr (X0 w0.heap.size) v v w (w.setCell ⟨w0.heap.size,k,none⟩ u):=(Gr.refl _ v w).set (.inl hX) k u
theorem Mq.new(h:Sq w0 l a cap N0 s j bd v w)(c:Array Value)(ty:TypeId):Mq w0.heap.size w.heap.size c ty v (w.alloc (.cells c ty)):=⟨Bk.new _ _ _,h.lt,h.new (Nat.le_refl _)⟩
theorem Mq.of(h:Sq w0 l a cap N0 s j bd v w)(hb:Bk g cs ty w')(hg:w.heap.size<=g):Mq w0.heap.size g cs ty v w':=⟨hb,Nat.lt_of_lt_of_le h.lt hg,h.new hg⟩
theorem Mq.go(m:Mq b g cs ty v w)(h:Gr (X0 b) v v' w w'):Mq b g cs ty v' w':=⟨m.bk.on h (by unfold X0;have:=m.b;omega) m.o,m.b,h.ne m.bk.lt m.o⟩
theorem Mq.keep(m:Mq b g cs ty v w)(h:Below w.heap.size w w'):Mq b g cs ty v w':=⟨m.bk.keep h,m.b,m.o⟩
theorem Mq.oth{k:Nat}(m:Mq b g cs ty v w)(hne:g≠k)(i:Nat)(u:Value):Mq b g cs ty v (w.setCell ⟨k,i,none⟩ u):=⟨m.bk.oth hne i u,m.b,m.o⟩
theorem Mq.box(m:Mq b g cs ty v w)(i:Nat)(u:Value):Mq b g cs ty v (w.setCell ⟨b,i,none⟩ u):=m.oth (by have:=m.b;omega) i u
theorem Mq.set(m:Mq b g cs ty v w)(i:Nat)(u:Value):Mq b g (cs.setIfInBounds i u) ty v (w.setCell ⟨g,i,none⟩ u):=⟨m.bk.set i u,m.b,m.o⟩
theorem Tq.go(h:Tq b B T t v w)(e:Gr (X0 b) v v' w w'):Tq b B T t v' w':=by
 obtain⟨hb,z,r,hp,hm,hr,ha⟩:=h
 have own_lt:∀g,T.ownBlock=some g->B<=g/\g<w.heap.size:=fun g hg=>World.ownsRow.lt hp.own g hg
 have h1:∀g,T.ownBlock=some g->w'.heap[g]? =w.heap[g]? :=fun g hg=>e.keep g (own_lt g hg).2 (by unfold X0;have:=(own_lt g hg).1;omega) (fun e2=>(ha g e2.symm).1 hg)
 have h2:∀j,j<z.length->w'.heap[r j]? =w.heap[r j]? :=fun j hj=>e.keep _ (hp.lt j hj) (by unfold X0;have:=hr j hj;omega) (fun e2=>(ha _ e2.symm).2 j hj rfl)
 refine⟨hb,z,r,pt_same hp e.size h1 h2,hm,hr,fun g hg=> ?_⟩
 rcases e.own with e2|⟨g2,e2,hg2⟩
 ·rw[e2]at hg;exact ha g hg
 ·rw[e2]at hg
  injection hg with hg
  subst hg
  exact⟨fun h3=>by have:=(own_lt g2 h3).2;omega,fun j hj h3=>by have:=hp.lt j hj;omega⟩
theorem Tq.keep(h:Tq b B T t v w)(hb:Below w.heap.size w w'):Tq b B T t v w':=h.go (Gr.quiet hb)
theorem Tq.low(h:Tq b B T t v w)(hg:g<B)(k:Nat)(u:Value):Tq b B T t v (w.setCell ⟨g,k,none⟩ u):=by
 obtain⟨hb,z,r,hp,hm,hr,ha⟩:=h
 have hk:∀k',k'≠g->(w.setCell ⟨g,k,none⟩ u).heap[k']? =w.heap[k']? :=fun k' h=>heap_setCell_other w ⟨g,k,none⟩ k' u h
 refine⟨hb,z,r,pt_same hp (by simp) (fun g2 o=>hk _ ?_) (fun j hj=>hk _ ?_),hm,hr,ha⟩
 ·have:=(World.ownsRow.lt hp.own _ o).1;omega
 ·have:=hr j hj;omega
theorem Tq.up{B':Nat}(h:Tq b B T t v w)(hB:B'<=B)(hb:b<B'):Tq b B' T t v w:=by
 obtain⟨_,z,r,hp,hm,hr,ha⟩:=h
 exact⟨hb,z,r,⟨⟨hp.own.1,hp.own.2.elim .inl (fun⟨g,cap,cur,hv,hg,r⟩=> .inr ⟨g,cap,cur,hv,Nat.le_trans hB hg,r⟩)⟩,fun i hi=>(hp.kid i hi).elim .inl (fun⟨cap,h1,h2,h3,h4⟩=> .inr ⟨cap,h1,h2,Nat.le_trans hB h3,h4⟩),hp.off,hp.asc,hp.lt⟩,hm,fun j hj=>Nat.le_trans hB (hr j hj),ha⟩
theorem Tq.lies(h:Tq b B T t v w):∃aT cT,T= .slice aT t.length cT/\nd.Lies w.heap.size w aT t:=by
 obtain⟨hb,z,r,hp,rfl,hr,ha⟩:=h
 obtain⟨aT,cT,e⟩:=hp.form
 subst e
 exact⟨aT,cT,by rw[List.length_map],hp.lies⟩
theorem Tq.of(h:Sq w0 l a cap N0 s j bd v w){z:List (Nd×Value)}{r:Nat->Nat}(hp:PT w.heap.size T z r w')(hr:∀j,j<z.length->w.heap.size<=r j):Tq w0.heap.size w.heap.size T (z.map (·.1)) v w':=by
 refine⟨h.lt,z,r,hp,rfl,hr,fun g hg=> ?_⟩
 have:=(World.ownsRow.lt h.own g hg).2
 exact⟨fun h3=>by have:=(World.ownsRow.lt hp.own _ h3).1;omega,fun j hj h3=>by have:=hr j hj;omega⟩
theorem Tq.nil(h:Sq w0 l a cap N0 s j bd v w):Tq w0.heap.size w.heap.size (.slice none 0 0) [] v w:=by
 have:=Tq.of h (PT.nil w.heap.size w) (fun j hj=>by simp at hj)
 exact this
theorem Sq.tok(h:Sq w0 l a cap N0 s j bd v w)(hc:tk.Lies w0.heap.size w0 a l)(hj:j<l.length):∃b o,a=some ⟨b,o,none⟩/\w.cell? ⟨b,o+j*3,none⟩=some (.int .i64 (kd l j))/\w.cell? ⟨b,o+j*3+1,none⟩=some (.string (tx l j))/\w.cell? ⟨b,o+j*3+2,none⟩=some (.int .i64 (pr.ta l j)):=pr.tok_cells hc h.bel hj
end
section
variable {w0:World} {l:List Tk} {a:Option Addr} {cap:Nat} {N0:List Tk} {s j:Nat} {bd:Bool} {v:Value}
set_option maxHeartbeats 1600000 in
theorem kind_any(w:World)(hst:Sq w0 l a cap N0 s j bd v w)(hc:tk.Lies w0.heap.size w0 a l)(hl:l.length<=100000):
  Calls Tryz.prog 61 #[.pointer (some ⟨w0.heap.size,0,none⟩)] w fun e w'=>e= .returned (.int .i64 (kd l j))/\Below w.heap.size w w':=by
 obtain⟨c0,c1,-,-⟩:=hst.c
 have hjn:=hst.jn
 obtain⟨N,hN⟩:∃N,l.length=N:=⟨_,rfl⟩
 by_cases h:j<l.length
 ·obtain⟨b,o,rfl,d0,d1,d2⟩:=hst.tok hc h
  obtain⟨k,hk⟩:∃k,kd l j=k:=⟨_,rfl⟩
  rw[hk]at d0
  rw[hk]
  rw[hN]at c0 h hl
  have h1:(j:Int)<(N:Int):=by omega
  have h2:¬(N:Int)<=(j:Int):=by omega
  clear hk hst hc h hN d1 d2 hjn
  go_enter Tryz.func61,Tryz.ntmps61
  go_wp2
  go_quiet (fail)
  go_wp2
  go_quiet (fail)
  go_wp2
  go_ret
  exact⟨rfl,below_drewN (below_drewN (Below.refl _ _) _) _⟩
 ·obtain⟨e0,-,-⟩:=pr.at_end (Nat.le_of_not_lt h)
  rw[e0]
  have h1:¬(j:Int)<(N:Int):=by omega
  have h2:(N:Int)<=(j:Int):=by omega
  rw[hN]at c0 hl
  clear hst hc h hN e0 hjn
  go_enter Tryz.func61,Tryz.ntmps61
  go_wp2
  go_quiet (fail)
  go_wp2
  go_ret
  exact⟨rfl,below_drewN (Below.refl _ _) _⟩
def hit(l:List Tk)(bd:Bool)(j:Nat)(k:Int):Bool:= !bd&&kd l j==k
def hitAt(l:List Tk)(bd:Bool)(j:Nat)(k:Int):Nat:=if hit l bd j k=true then j+1 else j
def hitT(l:List Tk)(bd:Bool)(j:Nat)(k:Int):Value:=if hit l bd j k=true then .agg #[.int .i64 (kd l j),.string (tx l j),.int .i64 (pr.ta l j)]else .agg #[.int .i64 0,.string ⟨#[]⟩,.int .i64 0]
set_option maxHeartbeats 3200000 in
theorem take_any(k:Int)(w:World)(hst:Sq w0 l a cap N0 s j bd v w)(hc:tk.Lies w0.heap.size w0 a l)(hl:l.length<=100000)(hk0:¬k=0)(hk2:¬k=2):
  Calls Tryz.prog 107 #[.pointer (some ⟨w0.heap.size,0,none⟩),.int .i64 k] w fun e w'=>e= .returned (hitT l bd j k)/\Sq w0 l a cap N0 s (hitAt l bd j k) (!hit l bd j k) v w'/\Gr (X0 w0.heap.size) v v w w':=by
 obtain⟨W,hW⟩:∃W,W=w.alloc (.cells #[.int .i64 0,.string ⟨#[]⟩,.int .i64 0] 86):=⟨_,rfl⟩
 have hB:Below w.heap.size w W:=by rw[hW];exact(Below.refl _ _).alloc (Nat.le_refl _) _
 have S0:=hid (hst.keep hB)
 have R0:=hid (show Mq w0.heap.size w.heap.size #[.int .i64 0,.string ⟨#[]⟩,.int .i64 0] 86 v W from Mq.of hst (by rw[hW];exact Bk.new _ _ _) (Nat.le_refl _))
 have G0:=hid (show Gr (X0 w0.heap.size) v v w W from Gr.quiet hB)
 have HK:=hid (kind_any W S0.out hc hl)
 have HWS:=hid hst.lt
 obtain⟨c0,c1,c2,-⟩:=S0.c
 rw[hW]at c0 c1 c2
 cases bd with
 |true=>
  have e1:hit l true j k=false:=rfl
  unfold hitT hitAt
  rw[e1]
  have f2:=S0.f 2
  have S1:=hid S0.bad
  have R1:=hid (R0.box 2 (.bool true))
  have G1:=hid (G0.trans (Gr.box (v:=v) (w:=W) rfl 2 (.bool true)))
  have r0:=R1.bk.c3
  have g0:=R1.bk.f
  clear hst hc hl hk0 hk2 hB
  rw[hW]at r0 g0 f2
  go_enter Tryz.func107,Tryz.ntmps107
  go_wp2
  rw[<-hW]
  clear hW
  obtain⟨t0,t1,t2⟩:=(R1.bk.put3 (.int .i64 0) (.string ⟨#[]⟩) (.int .i64 0)).c3
  refine bodyPost_ret (v:= .agg #[.int .i64 0,.string ⟨#[]⟩,.int .i64 0]) (by simp[results,Tryz.results107,go_sem,t0,t1,t2]) rfl ⟨rfl,((S1.mset R1.out 0 _).mset (R1.set 0 _) 1 _).mset ((R1.set 0 _).set 1 _) 2 _,((G1.set (.inr (Nat.le_refl _)) 0 _).set (.inr (Nat.le_refl _)) 1 _).set (.inr (Nat.le_refl _)) 2 _⟩
 |false=>
  by_cases h:kd l j=k
  ·have e1:hit l false j k=true:=by unfold hit;rw[h];simp
   have hj:=kd_lt (l:=l) (i:=j) (by omega)
   obtain⟨b,o,rfl,d0,d1,d2⟩:=S0.tok hc hj
   unfold hitT hitAt
   rw[e1,if_pos rfl,if_pos rfl]
   have HN:=hid (fun W2 (h2:Sq w0 l (some ⟨b,o,none⟩) cap N0 s j false v W2)=>h2.next hj (by rw[h];exact hk2))
   have HJ:=hid hj
   have HTK:=hid (fun W2 (h2:Sq w0 l (some ⟨b,o,none⟩) cap N0 s j false v W2)=>h2.tok hc hj)
   rw[h]at HK d0 HTK|-
   obtain⟨x,hx⟩:∃x,tx l j=x:=⟨_,rfl⟩
   obtain⟨y,hy⟩:∃y,pr.ta l j=y:=⟨_,rfl⟩
   rw[hx]at d1 HTK|-
   rw[hy]at d2 HTK|-
   have q1:(k !=k)=false:=by simp
   have hjl:j<=100000:=by omega
   obtain⟨M,hM⟩:∃M,l.length=M:=⟨_,rfl⟩
   have HML:=hid hM
   have h1:(j:Int)<(M:Int):=by omega
   clear hst hc hl hk0 hk2 hB h hx hy hj hM d0 d1 d2
   go_enter Tryz.func107,Tryz.ntmps107
   go_wp2_with fail
   rw[<-hW]
   clear hW c0 c1 c2
   refine HK.mono ?_
   rintro e w1 ⟨rfl,b1⟩
   have S1:=hid (S0.keep b1)
   have R1:=hid (R0.keep b1)
   have G1:=hid (G0.trans (Gr.quiet b1))
   obtain⟨c0,c1,c2,-⟩:=S1.c
   rw[HML.out]at c0
   obtain⟨b',o',e',d0,d1,d2⟩:=HTK.out w1 S1.out
   injection e' with e'
   injection e' with e1' e2' _
   subst e1' e2'
   clear b1
   have C0:∀z,(w1.alloc z).cell? ⟨w0.heap.size,0,none⟩=_:=fun z=>nd.cell_past z c0
   have C1:∀z,(w1.alloc z).cell? ⟨w0.heap.size,1,none⟩=_:=fun z=>nd.cell_past z c1
   have D0:∀z,(w1.alloc z).cell? _=_:=fun z=>nd.cell_past z d0
   have D1:∀z,(w1.alloc z).cell? _=_:=fun z=>nd.cell_past z d1
   have D2:∀z,(w1.alloc z).cell? _=_:=fun z=>nd.cell_past z d2
   go_wp2
   go_region
   obtain⟨W2,C⟩:∃W2,W2=(w1.alloc (.cells #[.int .i64 k,.string x,.int .i64 y] 86)).drew:=⟨_,rfl⟩
   have A:Below w1.heap.size w1 W2:=by rw[C];exact((Below.refl _ _).alloc (Nat.le_refl _) _).drew
   have S2:=hid (S1.keep A)
   have R2:=hid (R1.keep A)
   have G2:=hid (G1.trans (Gr.quiet A))
   have Q2:=hid (show Mq w0.heap.size w1.heap.size #[.int .i64 k,.string x,.int .i64 y] 86 v W2 from Mq.of S1.out (by rw[C];exact(Bk.new _ _ _).drew) (Nat.le_refl _))
   have S3:=hid (HN.out _ S2.out)
   have R3:=hid (R2.box 1 (.int .i64 ((j:Int)+1)))
   have Q3:=hid (Q2.box 1 (.int .i64 ((j:Int)+1)))
   have G3:=hid (G2.trans (Gr.box (v:=v) (w:=W2) rfl 1 (.int .i64 ((j:Int)+1))))
   obtain⟨x0,x1,x2,-⟩:=S2.c
   have f1:=S2.f 1
   have p0:=Q3.bk.c3
   have r0:=R3.bk.c3
   have g0:=R3.bk.f
   clear C0 C1 D0 D1 D2 c0 c1 c2 d0 d1 d2 A
   rw[<-C]
   clear C
   go_wp2
   obtain⟨t0,t1,t2⟩:=(R3.bk.put3 (.int .i64 k) (.string x) (.int .i64 y)).c3
   refine bodyPost_ret (v:= .agg #[.int .i64 k,.string x,.int .i64 y]) (by simp[results,Tryz.results107,go_sem,t0,t1,t2]) rfl ⟨rfl,((S3.mset R3.out 0 _).mset (R3.set 0 _) 1 _).mset ((R3.set 0 _).set 1 _) 2 _,((G3.set (.inr (Nat.le_refl _)) 0 _).set (.inr (Nat.le_refl _)) 1 _).set (.inr (Nat.le_refl _)) 2 _⟩
  ·have e1:hit l false j k=false:=by unfold hit;simp[h]
   unfold hitT hitAt
   rw[e1]
   obtain⟨c,hcc⟩:∃c,kd l j=c:=⟨_,rfl⟩
   rw[hcc]at HK h
   obtain⟨q1,q2⟩:=ne_facts h
   clear hst hc hl hk0 hk2 hB hcc h
   go_enter Tryz.func107,Tryz.ntmps107
   go_wp2_with fail
   rw[<-hW]
   clear hW c0 c1 c2
   refine HK.mono ?_
   rintro e w1 ⟨rfl,b1⟩
   have S1:=hid (S0.keep b1).bad
   have f2:=(S0.keep b1).f 2
   obtain⟨c0,c1,c2,-⟩:=(S0.keep b1).c
   have R1:=hid ((R0.keep b1).box 2 (.bool true))
   have G1:=hid ((G0.trans (Gr.quiet b1)).trans (Gr.box (v:=v) (w:=w1) rfl 2 (.bool true)))
   have r0:=R1.bk.c3
   have g0:=R1.bk.f
   clear b1
   go_wp2
   obtain⟨t0,t1,t2⟩:=(R1.bk.put3 (.int .i64 0) (.string ⟨#[]⟩) (.int .i64 0)).c3
   refine bodyPost_ret (v:= .agg #[.int .i64 0,.string ⟨#[]⟩,.int .i64 0]) (by simp[results,Tryz.results107,go_sem,t0,t1,t2]) rfl ⟨rfl,((S1.mset R1.out 0 _).mset (R1.set 0 _) 1 _).mset ((R1.set 0 _).set 1 _) 2 _,((G1.set (.inr (Nat.le_refl _)) 0 _).set (.inr (Nat.le_refl _)) 1 _).set (.inr (Nat.le_refl _)) 2 _⟩
end
open rt (isLval)
open operand (begins)
open lv (opLevel)
theorem step_note{ops:Array Oper}{o:Oper}{a:Act}{w:World}{K:Act->World->Prop}{Q:Exit->Act->World->Prop}{E:Prop}(t:Tk)(hgd:o.guard=none)(s x:Operand)
  (ho:o.op= .call {callee:= .builtin .append,args:= #[s,x],argTypes:= #[38,38]}) (B:Nat) (v:Value) (d:List Tk) (hs:a.eval s=v)
  (hown:own.Own B v d w) (gz:Nat) (hx:a.eval x= .slice (some ⟨gz,0,none⟩) 1 1) (hz:w.heap[gz]? =some (.cells #[.int .i64 t.k,.string t.s,.int .i64 t.a] 86 (0,0))) (hn:d.length<=1048576) (hB:B<=w.heap.size)
  (h:∀g cap w',own.Own B (.slice (some ⟨g,0,none⟩) (d.length+1) cap) (d++[t]) w'->Below B w w'->w.grownBy w' v.ownBlock->(v.ownBlock=some g\/w.heap.size<=g)->K (a.put o.dst (.slice (some ⟨g,0,none⟩) (d.length+1) cap)) w'):
  if Region.wanted o (yielded ops a.tmps)=true then Oper.wp Tryz.prog o a w K Q else E:=by
 obtain⟨i0,hi,A,C,y⟩:=info_parts Go.Proofs.YtebjmdpkobhcbaaGreatDoor.tk.Tryz.infoTok
 refine step_append_lies w hgd s x 38 ho B 86 i0 _ 3 32 Tryz.underlying38 hi A C y rfl (by decide) v d.length (own.flat d) hs hown ⟨gz,0,none⟩ 1 1 [.int .i64 t.k,.string t.s,.int .i64 t.a] hx rfl ?_ ?_ (by decide) (by unfold maxLen;omega) (by omega) hB _ rfl ?_
 ·intro j q hj
  rw[show((⟨gz,0,none⟩:Addr).add j)=⟨gz,j,none⟩ by unfold Addr.add;split<;>simp_all]
  rw[cell_of_row _ gz j _ _ _ hz]
  simpa using hj
 ·intro q hq
  simp at hq
  rcases hq with rfl|rfl|rfl<;>rfl
 ·intro g cap w' hown' hg hor _
  refine h g cap w' ?_ ?_ hg (hor.imp id (fun e=>by omega))
  ·unfold own.Own
   rw[own.flat_snoc,List.length_append]
   exact hown'
  ·exact(Below.refl B w).grown hg hB fun k hk=>(World.ownsRow.lt hown k hk).1
section
variable {w0:World} {l:List Tk} {a:Option Addr} {cap:Nat} {N0:List Tk} {s j:Nat} {bd:Bool} {v:Value}
theorem notes_len(h:s<=j)(hj:j<=l.length)(hN:N0.length+l.length<=200000):(N0++cms l s j).length<=200000:=by
 rw[List.length_append]
 have:=cms_len l s j
 omega
theorem Sq.note{w w5:World}{g2 n cap2:Nat}{D:List Tk}(h:Sq w0 l a cap N0 s j false v w)(hj:j<l.length)(hD:N0++cms l s (j+1)=D)(own5:own.Own (w0.heap.size+1) (.slice (some ⟨g2,0,none⟩) n cap2) D w5)(b5:Below (w0.heap.size+1) w w5)(gx5:∀k,k<w.heap.size->some k≠v.ownBlock->w5.heap[k]? =w.heap[k]?)(hs:w.heap.size<=w5.heap.size)(or5:v.ownBlock=some g2\/w.heap.size<=g2):
  Sq w0 l a cap N0 s (j+1) false (.slice (some ⟨g2,0,none⟩) n cap2) ((w5.setCell ⟨w0.heap.size,3,none⟩ (.slice (some ⟨g2,0,none⟩) n cap2)).setCell ⟨w0.heap.size,1,none⟩ (.int .i64 ((j:Int)+1)))/\Gr (X0 w0.heap.size) v (.slice (some ⟨g2,0,none⟩) n cap2) w ((w5.setCell ⟨w0.heap.size,3,none⟩ (.slice (some ⟨g2,0,none⟩) n cap2)).setCell ⟨w0.heap.size,1,none⟩ (.int .i64 ((j:Int)+1))):=by
 have hbox:Bk w0.heap.size #[.slice a l.length cap,.int .i64 (j:Int),.bool false,v] 93 w5:=(b5.block _ (Nat.lt_succ_self _)).trans h.box
 have hne:(Value.slice (some ⟨g2,0,none⟩) n cap2).ownBlock≠some w0.heap.size:=fun e=>by have:=(World.ownsRow.lt own5 _ e).1;omega
 refine⟨⟨((h.bel.trans (b5.mono (Nat.le_succ _))).setCell (p:=⟨w0.heap.size,3,none⟩) (Nat.le_refl _) _).setCell (p:=⟨w0.heap.size,1,none⟩) (Nat.le_refl _) _, ?_, ?_,by have:=h.le;omega,hj⟩,⟨?_, ?_, ?_⟩⟩
 ·have:=(hbox.set 3 (.slice (some ⟨g2,0,none⟩) n cap2)).set 1 (.int .i64 ((j:Int)+1))
  rw[show((j+1:Nat):Int)=(j:Int)+1 by omega]
  exact this
 ·rw[hD]
  exact(own5.setOther hne _).setOther hne _
 ·simpa using hs
 ·intro k hk hx hn
  have hkb:k≠w0.heap.size:=hx
  rw[heap_setCell_other _ _ k _ hkb,heap_setCell_other _ _ k _ hkb]
  exact gx5 k hk hn
 ·rcases or5 with e|e
  ·exact .inl e.symm
  ·exact .inr ⟨g2,rfl,e⟩
def atOf(b:Nat)(w:World):Nat:=match w.cell? ⟨b,1,none⟩with
 |some (.int _ x)=>x.toNat
 |_=>0
theorem at_of{w:World}(h:Sq w0 l a cap N0 s j bd v w):atOf w0.heap.size w=j:=by
 unfold atOf
 rw[h.c.2.1]
 simp
def RelLn(w0:World)(l:List Tk)(a:Option Addr)(cap:Nat)(N0:List Tk)(s j:Nat)(v:Value)(w wr:World):Prop:=
 ∃j' v',sk l j'=sk l j/\Sq w0 l a cap N0 s j' false v' wr/\Gr (X0 w0.heap.size) v v' w wr
set_option maxHeartbeats 3200000 in
theorem lines_on(w:World)(hst:Sq w0 l a cap N0 s j false v w)(hc:tk.Lies w0.heap.size w0 a l)(hl:l.length<=100000)(hN:N0.length+l.length<=200000):
  Calls Tryz.prog 180 #[.pointer (some ⟨w0.heap.size,0,none⟩)] w fun e w'=>e= .returned (.tuple #[])/\∃v',Sq w0 l a cap N0 s (sk l j) false v' w'/\Gr (X0 w0.heap.size) v v' w w':=by
 have HS:=hid hst
 have HC:=hid hc
 have HL:=hid hl
 have HN:=hid hN
 clear hst hc hl hN
 go_enter Tryz.func180,Tryz.ntmps180
 go_wp2
 go_loopw [2] (fun _ wr=>RelLn w0 l a cap N0 s j v w wr) (fun _ wr=>l.length-atOf w0.heap.size wr)
 case atStart=>exact⟨j,v,rfl,HS.out,Gr.refl _ _ _⟩
 case round=>
  obtain⟨j',v',hsk,hst,hgr⟩:=hrel
  have S1:=hid hst
  have G1:=hid hgr
  have HSK:=hid hsk
  have HM:=hid (at_of hst)
  have HK:=hid (fun W2 (h2:Sq w0 l a cap N0 s j' false v' W2)=>kind_any W2 h2 HC.out HL.out)
  obtain⟨c0,c1,c2,c3⟩:=S1.c
  by_cases h1:kd l j'=1
  ·have HSY:=hid (sk_yes (.inl h1))
   have HLT:=hid (kd_lt (l:=l) (i:=j') (by omega))
   have HNX:=hid (fun W2 (h2:Sq w0 l a cap N0 s j' false v' W2)=>h2.next HLT.out (by omega))
   rw[h1]at HK
   have hjl:j'<=100000:=by have:=HLT.out;have:=HL.out;omega
   clear hst hgr hsk h1
   go_wp2_with fail
   refine(HK.out _ S1.out).mono ?_
   rintro e w1 ⟨rfl,b1⟩
   have S2:=hid (S1.keep b1)
   have G2:=hid (G1.trans (Gr.quiet b1))
   clear b1 c0 c1 c2 c3
   go_wp2_with fail
   refine(HK.out _ S2.out).mono ?_
   rintro e w2 ⟨rfl,b2⟩
   have S3:=hid (S2.keep b2)
   have G3:=hid (G2.trans (Gr.quiet b2))
   obtain⟨c0,c1,c2,c3⟩:=S3.c
   have f1:=S3.f 1
   clear b2
   go_wp2
   go_roundw
   case rel=>exact⟨j'+1,v',HSY.symm.trans HSK.out,HNX.out _ S3.out,G3.trans (Gr.box rfl 1 _)⟩
   case measure=>rw[at_of (HNX.out _ S3.out),HM.out];have:=HLT.out;omega
  by_cases h2:kd l j'=2
  ·have HSY:=hid (sk_yes (.inr h2))
   have HLT:=hid (kd_lt (l:=l) (i:=j') (by omega))
   have HTK:=hid (fun W2 (h2:Sq w0 l a cap N0 s j' false v' W2)=>h2.tok HC.out HLT.out)
   have HCM:=hid (show N0++cms l s (j'+1)=(N0++cms l s j')++[⟨kd l j',tx l j',pr.ta l j'⟩] by
    rw[<-cms_trans S1.le (Nat.le_succ j'),cms_note h2 HLT.out,<-List.append_assoc]
    rw[kd_at HLT.out,tx_at HLT.out,pr.ta_at HLT.out])
   have HNL:=hid (notes_len S1.le (Nat.le_of_lt HLT.out) HN.out)
   rw[h2]at HK HTK HCM
   have hjl:j'<=100000:=by have:=HLT.out;have:=HL.out;omega
   clear hst hgr hsk h1 h2
   go_wp2_with fail
   refine(HK.out _ S1.out).mono ?_
   rintro e w1 ⟨rfl,b1⟩
   have S2:=hid (S1.keep b1)
   have G2:=hid (G1.trans (Gr.quiet b1))
   clear b1 c0 c1 c2 c3
   go_wp2_with fail
   refine(HK.out _ S2.out).mono ?_
   rintro e w2 ⟨rfl,b2⟩
   have S3:=hid (S2.keep b2)
   have G3:=hid (G2.trans (Gr.quiet b2))
   clear b2
   go_wp2_with fail
   refine(HK.out _ S3.out).mono ?_
   rintro e w3 ⟨rfl,b3⟩
   have S4:=hid (S3.keep b3)
   have G4:=hid (G3.trans (Gr.quiet b3))
   clear b3
   obtain⟨c0,c1,c2,c3⟩:=S4.c
   obtain⟨b,o,rfl,d0,d1,d2⟩:=HTK.out w3 S4.out
   obtain⟨M,hM⟩:∃M,l.length=M:=⟨_,rfl⟩
   rw[hM]at c0
   have h1:(j':Int)<(M:Int):=by have:=HLT.out;omega
   obtain⟨x,hx⟩:∃x,tx l j'=x:=⟨_,rfl⟩
   obtain⟨y,hy⟩:∃y,pr.ta l j'=y:=⟨_,rfl⟩
   rw[hx]at d1
   rw[hy]at d2
   rw[hx,hy]at HCM
   have HSO:=hid (show∀W2,Below w3.heap.size w3 W2->own.Own (w0.heap.size+1) v' (N0++cms l s j') W2 from fun W2 hb=>(S4.keep hb).own)
   obtain⟨D,hD⟩:∃D,N0++cms l s j'=D:=⟨_,rfl⟩
   rw[hD]at HSO HNL HCM
   have HBX:=hid (show∀W2,Below (w0.heap.size+1) w3 W2->Bk w0.heap.size #[.slice (some ⟨b,o,none⟩) l.length cap,.int .i64 (j':Int),.bool false,v'] 93 W2 from fun W2 hb=>(hb.block _ (Nat.lt_succ_self _)).trans S4.box)
   clear hM hx hy hD
   have C0:∀z,(w3.alloc z).cell? ⟨w0.heap.size,0,none⟩=_:=fun z=>nd.cell_past z c0
   have C1:∀z,(w3.alloc z).cell? ⟨w0.heap.size,1,none⟩=_:=fun z=>nd.cell_past z c1
   have C3:∀z,(w3.alloc z).cell? ⟨w0.heap.size,3,none⟩=_:=fun z=>nd.cell_past z c3
   go_wp2
   go_region_law (first|(refine step_note ⟨2,x,y⟩ (by rfl) _ _ (by rfl) (w0.heap.size+1) v' D (by rfl) (HSO.out _ (by first|exact(Below.refl _ w3).alloc (Nat.le_refl _) _|exact((Below.refl _ w3).alloc (Nat.le_refl _) _).drew|exact((Below.refl _ w3).drew).alloc (Nat.le_refl _) _)) w3.heap.size (by rfl) (by exact heap_alloc_new w3 _) (by have:=HNL.out;omega) (by simp;exact Nat.le_of_lt S4.lt) ?_;intro g2 P w5 G b5 C F;have A:=HBX.out w5 (((Below.refl _ w3).alloc S4.lt _).drew.trans b5);obtain⟨-,-,-,x3⟩:=Bk.c4 A;have y3:=A.f 3;have J:∀k,k<w3.heap.size->some k≠v'.ownBlock->w5.heap[k]? =w3.heap[k]? :=fun k hk hn=>(C.block k (by simp;exact Nat.lt_succ_of_lt hk) hn).trans (Below.heap_alloc w3 _ k hk);have H:w3.heap.size<=w5.heap.size:=Nat.le_trans (by simp) C.size;have K:v'.ownBlock=some g2\/w3.heap.size<=g2:=F.imp id (fun h=>Nat.le_trans (by simp) h);have O:Below (w0.heap.size+1) w3 w5:=((Below.refl _ w3).alloc S4.lt _).drew.trans b5))
   all_goals
    have HSN:=hid (Sq.note S4.out HLT.out HCM.out G O J H K)
    have N:=A.set 3 (.slice (some ⟨g2,0,none⟩) (D.length+1) P)
    have f1:=N.f 1
    obtain⟨-,U,-,-⟩:=Bk.c4 (x3:= .slice (some ⟨g2,0,none⟩) (D.length+1) P) N
    clear G b5 C F A J H K O C0 C1 C3 c0 c1 c2 c3 d0 d1 d2
    go_wp2
    go_roundw
    case rel=>exact⟨j'+1,_,HSY.symm.trans HSK.out,HSN.out.1,G4.trans HSN.out.2⟩
    case measure=>rw[at_of HSN.out.1,HM.out];have:=HLT.out;omega
  ·have HSN:=hid (sk_no (l:=l) (i:=j') (by omega))
   obtain⟨k,hk⟩:∃k,kd l j'=k:=⟨_,rfl⟩
   rw[hk]at HK h1 h2
   obtain⟨q1,Q⟩:=ne_facts h1
   obtain⟨q2,V⟩:=ne_facts h2
   clear hst hgr hsk h1 h2 hk
   go_wp2_with fail
   refine(HK.out _ S1.out).mono ?_
   rintro e w1 ⟨rfl,b1⟩
   have S2:=hid (S1.keep b1)
   have G2:=hid (G1.trans (Gr.quiet b1))
   clear b1 c0 c1 c2 c3
   go_wp2_with fail
   refine(HK.out _ S2.out).mono ?_
   rintro e w2 ⟨rfl,b2⟩
   have S3:=hid (S2.keep b2)
   have G3:=hid (G2.trans (Gr.quiet b2))
   clear b2
   go_wp2
   go_end0
   refine⟨rfl,v', ?_,G3.out⟩
   rw[<-HSK.out,HSN.out]
   exact S3.out
end
open pb (opB clB opN clN)
theorem fld_n(x0 x1 x2 x3 x4:Value)(w:World):(Instr.field 33 (.agg #[x0,x1,x2,x3,x4]) 0).run Tryz.prog w= .ok x0 w:=by rfl
theorem signs_any(c:Int)(w:World):Calls Tryz.prog 60 #[.int .i64 c] w fun e w'=>e= .returned (.bool (isInc c))/\w=w':=by
 obtain⟨v,hv⟩:∃v,v=isInc c:=⟨_,rfl⟩
 rw[<-hv]
 unfold isInc at hv
 have HV:=hid hv
 clear hv
 go_enter Tryz.func60,Tryz.ntmps60
 go_wp2
 all_goals go_ret
 all_goals exact⟨by rw[HV.out];simp_all,rfl⟩
set_option maxHeartbeats 1600000 in
theorem part_any(L':Int)(d i g sg:Bool)(L:Int)(w:World):Calls Tryz.prog 108 #[.agg #[.int .i64 L',.bool d,.bool i,.bool g,.bool sg],.int .i64 L] w fun e w'=>e= .returned (.agg #[.int .i64 L,.bool false,.bool i,.bool g,.bool false])/\Below w.heap.size w w':=by
 have hB:=hid (show Below w.heap.size w ((w.alloc (.cells #[.int .i64 L',.bool d,.bool i,.bool g,.bool sg] 44)).alloc (.cells #[.int .i64 L,.bool false,.bool i,.bool g,.bool false] 44))from((Below.refl _ _).alloc (Nat.le_refl _) _).alloc (by simp) _)
 have R0:=Bk.new (w.alloc (.cells #[.int .i64 L',.bool d,.bool i,.bool g,.bool sg] 44)) #[.int .i64 L,.bool false,.bool i,.bool g,.bool false] 44
 have P0:=(Bk.new w #[.int .i64 L',.bool d,.bool i,.bool g,.bool sg] 44).alloc (.cells #[.int .i64 0,.bool false,.bool false,.bool false,.bool false] 44)
 obtain⟨p0,p1,p2,p3,p4⟩:=P0.c5
 clear P0
 rw[show(w.alloc (.cells #[.int .i64 L',.bool d,.bool i,.bool g,.bool sg] 44)).heap.size=w.heap.size+1 by simp]at R0
 obtain⟨t0,t1,t2,t3,t4⟩:=R0.c5
 clear R0
 go_enter Tryz.func108,Tryz.ntmps108
 go_wp2
 exact bodyPost_ret (v:= .agg #[.int .i64 L,.bool false,.bool i,.bool g,.bool false]) (by simp[results,Tryz.results108,go_sem,t0,t1,t2,t3,t4]) rfl ⟨rfl,hB.out⟩
theorem root_last{t:List Nd}(h:0<t.length):rootK t=t[t.length-1].k:=by
 unfold rootK
 rw[List.getLast?_eq_getElem?,List.getElem?_eq_getElem (by omega)]
 rfl
set_option maxHeartbeats 3200000 in
theorem root_any(t:List Nd)(aT:Option Addr)(cT:Nat)(h:Bool)(w:World)(hT:nd.Lies w.heap.size w aT t)(hl:t.length<=1048576):
  Calls Tryz.prog 254 #[.agg #[.slice aT t.length cT,.bool h]] w fun e w'=>(∃x1 x2 x3 x4,e= .returned (.agg #[.int .i64 (rootK t),x1,x2,x3,x4]))/\Below w.heap.size w w':=by
 obtain⟨W,hW⟩:∃W,W=(w.alloc (.cells #[.slice aT t.length cT,.bool h] 95)).alloc (.cells #[.int .i64 0,.int .i64 0,.string ⟨#[]⟩,.string ⟨#[]⟩,.slice none 0 0] 33):=⟨_,rfl⟩
 have hB:=hid (show Below w.heap.size w W by rw[hW];exact((Below.refl _ _).alloc (Nat.le_refl _) _).alloc (by simp) _)
 have C:=hid (show Bk w.heap.size #[.slice aT t.length cT,.bool h] 95 W by rw[hW];exact(Bk.new _ _ _).alloc _)
 have R0:=hid (show Bk (w.heap.size+1) #[.int .i64 0,.int .i64 0,.string ⟨#[]⟩,.string ⟨#[]⟩,.slice none 0 0] 33 W by
  rw[hW]
  have:=Bk.new (w.alloc (.cells #[.slice aT t.length cT,.bool h] 95)) #[.int .i64 0,.int .i64 0,.string ⟨#[]⟩,.string ⟨#[]⟩,.slice none 0 0] 33
  simpa using this)
 obtain⟨x0,x1⟩:=C.c2
 obtain⟨r0,r1,r2,r3,r4⟩:=R0.c5
 have g0:=R0.f 0
 have g1:=R0.f 1
 have g2:=R0.f 2
 have g3:=R0.f 3
 have g4:=R0.f 4
 rw[hW]at x0 x1 r0 r1 r2 r3 r4 g0 g1 g2 g3 g4
 by_cases h0:0<t.length
 ·have hlast:t.length-1<t.length:=by omega
  obtain⟨b,o,rfl,hlt,hat⟩:=nd.lies_at (hT.keep hB.out (Nat.le_refl _)) hlast
  obtain⟨ak,ck,h5,-⟩:=hat (t.length-1) hlast
  rw[root_last h0]
  obtain⟨y,hy⟩:∃y,t[t.length-1]=y:=⟨_,rfl⟩
  rw[hy]at h5|-
  obtain⟨m0,m1,m2,m3,m4⟩:=h5
  obtain⟨K,hK⟩:∃K,t.length=K+1:=⟨t.length-1,by omega⟩
  rw[hK]at x0 m0 m1 m2 m3 m4 hl
  rw[show K+1-1=K by omega]at m0 m1 m2 m3 m4
  have e0:((K+1:Nat):Int)=(K:Int)+1:=by omega
  have q1:(((K:Int)+1)==0)=false:=by rw[beq_eq_false_iff_ne];omega
  have q2:(K:Int)+1-1=(K:Int):=by omega
  have q3:(K:Int)<(K:Int)+1:=by omega
  have q4:(0:Int)<=(K:Int):=by omega
  have q5:K<=1048576:=by omega
  have q6:(K:Int)<((K+1:Nat):Int):=by omega
  rw[hK]at hW r0 r1 r2 r3 r4 g0 g1 g2 g3 g4 x1|-
  rw[hW]at m0 m1 m2 m3 m4
  clear hT hat hlast h0 hy hl hlt
  go_enter Tryz.func254,Tryz.ntmps254
  go_wp2
  have A:Below w.heap.size w ((w.alloc (.cells #[.slice (some ⟨b,o,none⟩) (K+1) cT,.bool h] 95)).alloc (.cells #[.int .i64 y.k,.int .i64 y.op,.string y.s,.string y.t,.slice ak y.kids.length ck] 33)):=((Below.refl _ _).alloc (Nat.le_refl _) _).alloc (by simp) _
  have R2:=Bk.new (w.alloc (.cells #[.slice (some ⟨b,o,none⟩) (K+1) cT,.bool h] 95)) #[.int .i64 y.k,.int .i64 y.op,.string y.s,.string y.t,.slice ak y.kids.length ck] 33
  rw[show(w.alloc (.cells #[.slice (some ⟨b,o,none⟩) (K+1) cT,.bool h] 95)).heap.size=w.heap.size+1 by simp]at R2
  obtain⟨t0,t1,t2,t3,t4⟩:=R2.c5
  exact bodyPost_ret (v:= .agg #[.int .i64 y.k,.int .i64 y.op,.string y.s,.string y.t,.slice ak y.kids.length ck]) (by simp[results,Tryz.results254,go_sem,t0,t1,t2,t3,t4]) rfl ⟨⟨_,_,_,_,rfl⟩,A⟩
 ·have ht:t=[]:=List.length_eq_zero_iff.1 (by omega)
  subst ht
  clear hT h0 hl
  go_enter Tryz.func254,Tryz.ntmps254
  go_wp2
  have A:Below w.heap.size w ((w.alloc (.cells #[.slice aT 0 cT,.bool h] 95)).alloc (.cells #[.int .i64 0,.int .i64 0,.string ⟨#[]⟩,.string ⟨#[]⟩,.slice none 0 0] 33)):=((Below.refl _ _).alloc (Nat.le_refl _) _).alloc (by simp) _
  have R2:=Bk.new (w.alloc (.cells #[.slice aT 0 cT,.bool h] 95)) #[.int .i64 0,.int .i64 0,.string ⟨#[]⟩,.string ⟨#[]⟩,.slice none 0 0] 33
  rw[show(w.alloc (.cells #[.slice aT 0 cT,.bool h] 95)).heap.size=w.heap.size+1 by simp]at R2
  obtain⟨t0,t1,t2,t3,t4⟩:=R2.c5
  exact bodyPost_ret (v:= .agg #[.int .i64 0,.int .i64 0,.string ⟨#[]⟩,.string ⟨#[]⟩,.slice none 0 0]) (by simp[results,Tryz.results254,go_sem,t0,t1,t2,t3,t4]) rfl ⟨⟨_,_,_,_,rfl⟩,A⟩
def put(h:Bool)(t:List Nd):Bool:= !h&&isLval (rootK t)
set_option maxHeartbeats 1600000 in
theorem put_any(t:List Nd)(aT:Option Addr)(cT:Nat)(h:Bool)(w:World)(hT:nd.Lies w.heap.size w aT t)(hl:t.length<=1048576):
  Calls Tryz.prog 173 #[.agg #[.slice aT t.length cT,.bool h]] w fun e w'=>e= .returned (.bool (put h t))/\Below w.heap.size w w':=by
 obtain⟨W,hW⟩:∃W,W=w.alloc (.cells #[.slice aT t.length cT,.bool h] 95):=⟨_,rfl⟩
 have hB:=hid (show Below w.heap.size w W by rw[hW];exact(Below.refl _ _).alloc (Nat.le_refl _) _)
 have o:=hid (show Bk w.heap.size #[.slice aT t.length cT,.bool h] 95 W by rw[hW];exact Bk.new _ _ _)
 have x0:=o.c2
 have HR:=hid (root_any t aT cT h W ((hT.keep hB.out (Nat.le_refl _)).up hB.out.size) hl)
 have hfn:=fld_n
 obtain⟨N,hN⟩:∃N,t.length=N:=⟨_,rfl⟩
 rw[hN]at HR hl x0 hW
 rw[hN]
 obtain⟨K,hK⟩:∃K,rootK t=K:=⟨_,rfl⟩
 unfold put
 rw[hK]at HR|-
 rw[hW]at x0
 clear hT o hN hK
 cases h with
 |true=>
  go_enter Tryz.func173,Tryz.ntmps173
  go_wp2
  go_ret
  rw[<-hW]
  exact⟨rfl,hB.out⟩
 |false=>
  go_enter Tryz.func173,Tryz.ntmps173
  go_wp2_with fail
  rw[<-hW]
  clear hW x0
  refine HR.mono ?_
  rintro e w1 ⟨⟨y1,y2,y3,y4,rfl⟩,b1⟩
  go_wp2_with (go_at_call 150;refine(rt.spec_isLval _ _).mono ?_;rintro e w2 ⟨rfl,rfl⟩)
  go_ret
  exact⟨by simp,hB.out.trans (b1.mono hB.out.size)⟩
section
variable {w0:World} {l:List Tk} {a:Option Addr} {cap:Nat} {N0:List Tk} {s j:Nat} {bd:Bool} {v:Value}
theorem isop_t{c:Int}(h:¬c=62):(c !=0&&c !=99)=(!(c==0)&& !(c==99)&& !(c==62)):=by
 have e:(c==62)=false:=by rw[beq_eq_false_iff_ne];exact h
 rw[e]
 simp[bne]
theorem lines_any(w:World)(hst:Sq w0 l a cap N0 s j bd v w)(hc:tk.Lies w0.heap.size w0 a l)(hl:l.length<=100000)(hN:N0.length+l.length<=200000):
  Calls Tryz.prog 180 #[.pointer (some ⟨w0.heap.size,0,none⟩)] w fun e w'=>e= .returned (.tuple #[])/\∃v',Sq w0 l a cap N0 s (if bd=true then j else sk l j) bd v' w'/\Gr (X0 w0.heap.size) v v' w w':=by
 cases bd with
 |false=>exact lines_on w hst hc hl hN
 |true=>
  have HS:=hid hst
  have c0:=HS.c
  clear hst hc hl hN
  go_enter Tryz.func180,Tryz.ntmps180
  go_wp2
  go_loopw [2] (fun _ wr=>wr=w) (fun _ wr=>0)
  case atStart=>rfl
  case round=>
   subst hrel
   go_wp2
   go_end0
   exact⟨rfl,v,HS.out,Gr.refl _ _ _⟩
set_option maxHeartbeats 3200000 in
theorem is_any(L:Int)(p:Ps)(w:World)(hst:Sq w0 l a cap N0 s j bd v w)(hc:tk.Lies w0.heap.size w0 a l)(hl:l.length<=100000)(hL:binL L):
  Calls Tryz.prog 179 #[.pointer (some ⟨w0.heap.size,0,none⟩),.int .i64 L,.agg #[.int .i64 p.l,.bool p.d,.bool p.i,.bool p.g,.bool p.s]] w fun e w'=>e= .returned (.bool (!bd&&isOp L p.g (kd l j)))/\Below w.heap.size w w':=by
 obtain⟨pl,pd,pi,pg,ps⟩:=p
 obtain⟨W,hW⟩:∃W,W=w.alloc (.cells #[.int .i64 pl,.bool pd,.bool pi,.bool pg,.bool ps] 44):=⟨_,rfl⟩
 have hB:Below w.heap.size w W:=by rw[hW];exact(Below.refl _ _).alloc (Nat.le_refl _) _
 have B0:=hid hB
 have S0:=hid (hst.keep hB)
 have P0:=hid (show Bk w.heap.size #[.int .i64 pl,.bool pd,.bool pi,.bool pg,.bool ps] 44 W by rw[hW];exact Bk.new _ _ _)
 have HK:=hid (kind_any W S0.out hc hl)
 obtain⟨c,hcc⟩:∃c,kd l j=c:=⟨_,rfl⟩
 rw[hcc]at HK|-
 obtain⟨V,hV⟩:∃V,isOp L pg c=V:=⟨_,rfl⟩
 have HV:=hid hV
 unfold isOp at HV
 obtain⟨bg,hbg⟩:∃bg,begins c=bg:=⟨_,rfl⟩
 obtain⟨ol,hol⟩:∃ol,opLevel c=ol:=⟨_,rfl⟩
 rw[hbg,hol]at HV
 have HBG:=hid (fun W2=>operand.spec_begins c W2)
 have HOL:=hid (fun W2=>lv.spec_op c W2)
 rw[hbg]at HBG
 rw[hol]at HOL
 simp only[hV]
 unfold binL at hL
 clear hst hc hl hB hbg hol hV
 go_enter Tryz.func179,Tryz.ntmps179
 go_wp2_with fail
 rw[<-hW]
 clear hW hcc
 refine HK.mono ?_
 rintro e w1 ⟨rfl,b1⟩
 have B1:=hid (B0.trans (b1.mono B0.size))
 obtain⟨c0,c1,c2,c3⟩:=(S0.keep b1).c
 obtain⟨p0,p1,p2,p3,p4⟩:=(P0.keep b1).c5
 clear b1
 cases bd with
 |true=>
  go_wp2_with fail
  go_ret
  exact⟨rfl,B1.out⟩
 |false=>
  by_cases h8:L=8
  ·subst h8
   go_wp2_with (go_at_call 59;refine(HBG.out _).mono ?_;rintro e w2 ⟨rfl,rfl⟩)
   go_ret
   refine⟨?_,B1.out⟩
   rw[<-HV.out]
   rfl
  ·obtain⟨q1,q2⟩:=ne_facts h8
   have HV:=hid ((if_neg h8).symm.trans HV.out)
   go_wp2_with (go_at_call 255;refine(HOL.out _).mono ?_;rintro e w2 ⟨rfl,rfl⟩)
   all_goals
    go_ret
    refine⟨?_,B1.out⟩
    rw[<-HV.out]
    first|(simp_all;done)|(by_cases h62:c=62<;>cases pg<;>first|(simp_all;done)|(simp_all;first|exact isop_t h62|rfl))
theorem any_level(L:Int)(w:World)(hL:binL L):Calls Tryz.prog 178 #[.int .i64 L] w fun e w'=>(∃op,e= .returned (.int .i64 op)/\opLevel op=L)/\Below w.heap.size w w':=by
 unfold binL at hL
 rcases hL with rfl|rfl|rfl|rfl|rfl|rfl|rfl
 all_goals
  go_enter Tryz.func178,Tryz.ntmps178
  go_wp2
  go_ret
  exact⟨⟨_,rfl,by decide⟩,(Below.refl _ _).alloc (Nat.le_refl _) _⟩
def RelCm(l:List Tk)(j:Nat)(d i:Value)(w wr:World):Prop:=
 ∃(I:Nat) (D:Int),j<=I/\I<=l.length/\i= .int .i64 (I:Int)/\d= .int .i64 D/\((I=j/\D=0)\/(j<I/\1<=D))/\D<=(I:Int)/\com l D I=com l 0 j/\Below w.heap.size w wr
set_option maxHeartbeats 6400000 in
theorem comma_any(w:World)(hst:Sq w0 l a cap N0 s j bd v w)(hc:tk.Lies w0.heap.size w0 a l)(hl:l.length<=100000):
  Calls Tryz.prog 175 #[.pointer (some ⟨w0.heap.size,0,none⟩)] w fun e w'=>e= .returned (.bool (!bd&&comma l j))/\Below w.heap.size w w':=by
 have HS:=hid hst
 have HK:=hid (kind_any w hst hc hl)
 obtain⟨c0,c1,c2,c3⟩:=HS.c
 have HC:=hid hc
 have hjn:=HS.jn
 cases bd with
 |true=>
  clear hst hc hl
  go_enter Tryz.func175,Tryz.ntmps175
  go_wp2
  go_ret
  exact⟨rfl,Below.refl _ _⟩
 |false=>
  by_cases h32:kd l j=32
  case neg=>
   have e1:(!false&&comma l j)=false:=by unfold comma;simp[h32]
   rw[e1]
   obtain⟨c,hcc⟩:∃c,kd l j=c:=⟨_,rfl⟩
   rw[hcc]at HK h32
   obtain⟨q1,q2⟩:=ne_facts h32
   clear hst hc hl hcc h32 e1
   go_enter Tryz.func175,Tryz.ntmps175
   go_wp2_with fail
   refine HK.mono ?_
   rintro e w1 ⟨rfl,b1⟩
   go_wp2
   go_ret
   exact⟨rfl,b1⟩
  case pos=>
   have e1:(!false&&comma l j)=com l 0 j:=by unfold comma;rw[h32];rfl
   rw[e1]
   rw[h32]at HK
   have HJ:=hid (kd_lt (l:=l) (i:=j) (by omega))
   have K:=hid h32
   obtain⟨n,hn⟩:∃n,n=l.length:=⟨_,rfl⟩
   have HLN:=hid hn
   have N:j<=100000:=by omega
   clear hst hc h32 e1 hn
   go_enter Tryz.func175,Tryz.ntmps175
   go_wp2_with fail
   refine HK.mono ?_
   rintro e w1 ⟨rfl,b1⟩
   have B1:=hid b1
   obtain⟨c0,c1,c2,c3⟩:=(HS.keep b1).c
   clear b1
   go_wp2
   go_loopw [3,4] (fun d i wr=>RelCm l j d i w wr) (fun _ i _=>n-(intOf i).toNat)
   case atStart=>exact⟨j,0,Nat.le_refl _,hjn,rfl,rfl,.inl ⟨rfl,rfl⟩,by omega,rfl,B1.out⟩
   case round=>
    obtain⟨I,D,hI,hIn,rfl,rfl,hDD,J,hcm,hbel⟩:=hrel
    have HB:=hid hbel
    have SR:=hid (HS.keep hbel)
    obtain⟨c0,c1,c2,c3⟩:=SR.c
    have HCM:=hid hcm
    by_cases hlt:I<l.length
    ·have HON:=hid ((com_on (d:=D) hlt).symm.trans hcm)
     obtain⟨b,o,rfl,hb,hat⟩:=tk.lies_at HC.out hlt
     obtain⟨d0,d1,d2⟩:=(hat I hlt).keep SR.bel hb
     rw[<-kd_at hlt]at d0
     obtain⟨c,hcc⟩:∃c,kd l I=c:=⟨_,rfl⟩
     rw[hcc]at d0 HON
     rw[<-HLN.out]at c0 hlt hl
     have G:(I:Int)<(n:Int):=by omega
     have A:opB c=true->¬c=36:=by rintro h rfl;cases h
     have y:clB c=true->¬c=36:=by rintro h rfl;cases h
     have hIj:opB c=false->¬I=j:=by
      rintro h rfl
      rw[K.out]at hcc
      subst hcc
      cases h
     obtain⟨ob,hob⟩:∃ob,opB c=ob:=⟨_,rfl⟩
     obtain⟨cb,hcb⟩:∃cb,clB c=cb:=⟨_,rfl⟩
     have hbo:=pb.both (k:=c)
     unfold opN clN at HON
     rw[hob,hcb]at HON
     have HO:=hid (fun W2=>pb.spec_open c W2)
     have HCL:=hid (fun W2=>pb.spec_close c W2)
     rw[hob]at HO
     rw[hcb]at HCL
     rw[hob,hcb]at hbo
     rw[hob]at A hIj
     rw[hcb]at y
     clear hcm hbel hat hb hcc d1 d2 hob hcb
     cases ob with
     |true=>
      obtain rfl:cb=false:=hbo rfl
      have F:(c==36)=false:=by rw[beq_eq_false_iff_ne];exact A rfl
      have O:0<=D:=by omega
      have q0:(D+1==0)=false:=by rw[beq_eq_false_iff_ne];omega
      have hon:=HON.out
      simp only[if_true,Bool.false_eq_true,if_false,Int.sub_zero]at hon
      rw[if_neg (by omega),if_neg (fun h=>A rfl h.2)]at hon
      have C:=hid hon
      have HDJ:=hid J
      clear hon hbo A y hIj
      go_wp2_with (first|(go_at_call 53;refine(HO.out _).mono ?_;rintro e w2 ⟨rfl,rfl⟩)|(go_at_call 52;refine(HCL.out _).mono ?_;rintro e w2 ⟨rfl,rfl⟩))
      all_goals
       go_roundw
       case rel=>exact⟨I+1,D+1,by omega,by have:=HLN.out;omega,by go_num,by go_num,.inr ⟨by omega,by omega⟩,by omega,C.out,HB.out⟩
       case measure=>simp[intOf];omega
     |false=>
      have hne:=hIj rfl
      have P:1<=D:=by omega
      cases cb with
      |true=>
       have F:(c==36)=false:=by rw[beq_eq_false_iff_ne];exact y rfl
       have hon:=HON.out
       simp only[if_true,Bool.false_eq_true,if_false,Int.add_zero]at hon
       by_cases h0:D=1
       ·subst h0
        rw[if_pos (by omega)]at hon
        have HRES:=hid hon.symm
        clear hon hbo A y hIj
        go_wp2_with (first|(go_at_call 53;refine(HO.out _).mono ?_;rintro e w2 ⟨rfl,rfl⟩)|(go_at_call 52;refine(HCL.out _).mono ?_;rintro e w2 ⟨rfl,rfl⟩))
        go_ret
        exact⟨by rw[HRES.out];rfl,HB.out⟩
       ·rw[if_neg (by omega),if_neg (fun h=>y rfl h.2)]at hon
        have C:=hid hon
        have q0:(D-1==0)=false:=by rw[beq_eq_false_iff_ne];omega
        clear hon hbo A y hIj
        go_wp2_with (first|(go_at_call 53;refine(HO.out _).mono ?_;rintro e w2 ⟨rfl,rfl⟩)|(go_at_call 52;refine(HCL.out _).mono ?_;rintro e w2 ⟨rfl,rfl⟩))
        all_goals
         go_roundw
         case rel=>exact⟨I+1,D-1,by omega,by have:=HLN.out;omega,by go_num,by go_num,.inr ⟨by omega,by omega⟩,by omega,C.out,HB.out⟩
         case measure=>simp[intOf];omega
      |false=>
       have q0:(D==0)=false:=by rw[beq_eq_false_iff_ne];omega
       have hon:=HON.out
       simp only[Bool.false_eq_true,if_false,Int.add_zero,Int.sub_zero]at hon
       rw[if_neg (by omega)]at hon
       by_cases h1:D=1/\c=36
       ·obtain⟨rfl,rfl⟩:=h1
        rw[if_pos ⟨rfl,rfl⟩]at hon
        have HRES:=hid hon.symm
        clear hon hbo A y hIj
        go_wp2_with (first|(go_at_call 53;refine(HO.out _).mono ?_;rintro e w2 ⟨rfl,rfl⟩)|(go_at_call 52;refine(HCL.out _).mono ?_;rintro e w2 ⟨rfl,rfl⟩))
        go_ret
        exact⟨by rw[HRES.out];rfl,HB.out⟩
       ·rw[if_neg h1]at hon
        have C:=hid hon
        clear hon hbo A y hIj
        by_cases h2:D=1
        ·have F:(c==36)=false:=by rw[beq_eq_false_iff_ne];exact fun h=>h1 ⟨h2,h⟩
         subst h2
         clear h1
         go_wp2_with (first|(go_at_call 53;refine(HO.out _).mono ?_;rintro e w2 ⟨rfl,rfl⟩)|(go_at_call 52;refine(HCL.out _).mono ?_;rintro e w2 ⟨rfl,rfl⟩))
         all_goals
          go_roundw
          case rel=>exact⟨I+1,1,by omega,by have:=HLN.out;omega,by go_num,by go_num,.inr ⟨by omega,by omega⟩,by omega,C.out,HB.out⟩
          case measure=>simp[intOf];omega
        ·have q1:(D==1)=false:=by rw[beq_eq_false_iff_ne];exact h2
         clear h1
         go_wp2_with (first|(go_at_call 53;refine(HO.out _).mono ?_;rintro e w2 ⟨rfl,rfl⟩)|(go_at_call 52;refine(HCL.out _).mono ?_;rintro e w2 ⟨rfl,rfl⟩))
         all_goals
          go_roundw
          case rel=>exact⟨I+1,D,by omega,by have:=HLN.out;omega,by go_num,by go_num,.inr ⟨by omega,by omega⟩,by omega,C.out,HB.out⟩
          case measure=>simp[intOf];omega
    ·have H:I=l.length:=by omega
     have hres:com l 0 j=false:=by rw[<-hcm,com_end (by omega)]
     rw[<-HLN.out]at c0 hlt hIn
     have G:¬(I:Int)<(n:Int):=by omega
     have HRES:=hid hres
     clear hcm hbel H hres
     go_wp2
     go_ret
     exact⟨by rw[HRES.out];rfl,HB.out⟩
end
end Go.Proofs.YtebjmdpkobhcbaaGreatDoor.qs
namespace Go.Proofs.YtebjmdpkobhcbaaGreatDoor.nd
open Lib (hid)
open Go.ChangeShapes Go.WideShapes Go.ChangeAt Go.RowKit
set_option linter.unusedVariables false
set_option maxRecDepth 20000
theorem run_append_zero{P:Program}{w:World}(base:Nat)(t ty e:TypeId)(i:TypeInfo)(size:Nat)(ht:P.underlying t=some (.slice e))(hi:P.info? e=some i)
  (g n cap:Nat) (xs:List Value) (hown:w.ownsRow base e size (.slice (some ⟨g,0,none⟩) n cap) n xs) (ad:Addr) (c:Nat):
  (Builtin.append_ #[t,t] ty #[.slice (some ⟨g,0,none⟩) n cap,.slice (some ad) 0 c]).run P w= .ok (.slice (some ⟨g,0,none⟩) n cap) w:=by
 rcases hown.2 with ⟨hv,_⟩|⟨g',cap',cur,hv,_,_,hnc,_⟩
 ·cases hv
 ·injection hv with _ _ hv
  subst hv
  simp[Builtin.append_,run_underlying ht,sizeOf,typeInfo,hi,Builtin.lenOf,Builtin.firstCells,hnc,storeCells,loadCells,loadCellsFrom]
theorem append_zero{ops:Array Oper}{rest:List Oper}{o:Oper}{a:Act}{w:World}{Q:Exit->Act->World->Prop}(hgd:o.guard=none)(s x:Operand)
  (ho:o.op= .call {callee:= .builtin .append,args:= #[s,x],argTypes:= #[26,26]}) (B gv cv:Nat) (d:List (Nd×Value)) (r:Nat->Nat) (hs:a.eval s= .slice (some ⟨gv,0,none⟩) d.length cv)
  (hown:PT B (.slice (some ⟨gv,0,none⟩) d.length cv) d r w) (a2:Option Addr) (c2:Nat) (hx:a.eval x= .slice a2 0 c2) (hu:(Value.slice a2 0 c2= .slice none 0 0)\/∃ad,a2=some ad)
  (h:wpList Tryz.prog ops Q rest (a.put o.dst (.slice (some ⟨gv,0,none⟩) d.length cv)) w):wpList Tryz.prog ops Q (o::rest) a w:=by
 obtain⟨i0,hi,A,C,y⟩:=info_parts Tryz.infoNode
 rcases hu with e|⟨ad,rfl⟩
 ·exact wpList_append_own_none hgd s x 26 ho B 33 i0 5 Tryz.underlying26 hi _ d.length (fl d) hs hown.own (hx.trans e) h
 ·refine wpList_plain hgd fun K hK=> ?_
  have hrun:=run_append_zero (P:=Tryz.prog) (w:=w) B 26 o.type 33 i0 5 Tryz.underlying26 hi gv d.length cv (fl d) hown.own ad c2
  unfold Oper.wp
  simp[execOp,ho,resolve,invoke,builtin,hs,hx,hrun,Result.andThen]
  exact hK _ _ h
set_option maxRecDepth 20000 in
set_option maxHeartbeats 3200000 in
theorem make_all(n:Nd)(ps:List (List Nd))(a:Option Addr)(cap:Nat)(w:World)(hps:Parts w.heap.size w a ps)(hsum:sumL ps<=100000)(hlen:ps.length<=1000)(hk:∀q∈ps,∀t∈q,t.kids.length<=1048576):
  Calls Tryz.prog 172 #[.agg #[.int .i64 n.k,.int .i64 n.op,.string n.s,.string n.t,.slice none 0 0],.slice a ps.length cap] w (PgOut (makeT n ps) w):=by
 have HPS:=hid hps
 have HSUM:=hid hsum
 have HK:=hid hk
 clear hps hsum hk
 go_enter Tryz.func172,Tryz.ntmps172
 go_wp2
 obtain⟨g0,F⟩:∃g0,g0=w.heap.size:=⟨_,rfl⟩
 have K:=hid F
 have ak:MK g0 n (g0+1) 0 [] (fun i=>i) (g0+1+1) 0 [] (((w.alloc (.cells #[.int .i64 n.k,.int .i64 n.op,.string n.s,.string n.t,.slice (some ⟨g0+1+1,0,none⟩) 0 0] 33)).alloc (.cells #[] 33)).alloc (.cells #[] 3)):=by
  have D:(w.alloc (.cells #[.int .i64 n.k,.int .i64 n.op,.string n.s,.string n.t,.slice (some ⟨g0+1+1,0,none⟩) 0 0] 33)).heap.size=g0+1:=by simp[F]
  have ac:((w.alloc (.cells #[.int .i64 n.k,.int .i64 n.op,.string n.s,.string n.t,.slice (some ⟨g0+1+1,0,none⟩) 0 0] 33)).alloc (.cells #[] 33)).heap.size=g0+1+1:=by simp[F]
  have h1:=PT.lit (B:=g0+1) (w:=w.alloc (.cells #[.int .i64 n.k,.int .i64 n.op,.string n.s,.string n.t,.slice (some ⟨g0+1+1,0,none⟩) 0 0] 33)) (by rw[D];exact Nat.le_refl _)
  rw[D]at h1
  have h2:=OwnI.lit (B:=g0+1) (w:=(w.alloc (.cells #[.int .i64 n.k,.int .i64 n.op,.string n.s,.string n.t,.slice (some ⟨g0+1+1,0,none⟩) 0 0] 33)).alloc (.cells #[] 33)) (by rw[ac];omega)
  rw[ac]at h2
  refine⟨h1.keep ((Below.refl _ _).alloc (Nat.le_refl _) _) (Nat.le_refl _),h2, ?_,by omega,fun i hi=>by simp at hi,fun i hi=>by simp at hi⟩
  rw[Below.heap_alloc _ _ _ (by rw[ac];omega),Below.heap_alloc _ _ _ (by rw[D];omega),F]
  exact heap_alloc_new w _
 have a4:=hid ak
 have an:=hid (below_three w (.cells #[.int .i64 n.k,.int .i64 n.op,.string n.s,.string n.t,.slice (some ⟨g0+1+1,0,none⟩) 0 0] 33) (.cells #[] 33) (.cells #[] 3))
 rw[<-F]at an|-
 clear F ak
 go_loopw [5,6] (fun v k wr=>RelMk g0 w n ps v k wr) (fun _ k _=>ps.length-(intOf k).toNat)
 case atStart=>exact⟨0,g0+1,0,[],_,g0+1+1,0,[],by omega,rfl,rfl,a4.out,rfl,an.out⟩
 case round=>
  obtain⟨J,gv,cv,z,r,gu,cu,ks,hJ,rfl,rfl,hmk,hgo,hbel⟩:=hrel
  have HMK:=hid hmk
  have HB:=hid hbel
  have V:z.map (·.1)=(makeGo (ps.take J) [] []).1:=congrArg Prod.fst hgo
  have P:ks=(makeGo (ps.take J) [] []).2:=congrArg Prod.snd hgo
  have hzl:z.length=sumL (ps.take J):=by
   have:=congrArg List.length V
   rw[List.length_map,makeGo_len]at this
   simpa using this
  have hkl:ks.length=J:=by
   rw[P,makeGo_klen];simp;omega
  have D:=sum_take ps J
  have hzb:z.length<=100000:=by rw[hzl];exact Nat.le_trans D HSUM.out
  have N:=hid V
  have U:=hid P
  have HKL:=hid hkl
  have HZL:=hid hzl
  have hbox:=hmk.box
  have b4:wr.cell? ⟨g0,4,none⟩=some (.slice (some ⟨gu,0,none⟩) ks.length cu):=by rw[cell_of_row _ _ 4 _ _ _ hbox];rfl
  have ai:g0<wr.heap.size:=lt_of_heap hbox
  have HGW:=hid ai
  clear hmk hbel hgo V P hzl hkl D ai
  by_cases hlt:J<ps.length
  ·have hsg:=sum_get ps J hlt
   obtain⟨b,o,rfl,hb,hc⟩:=parts_at HPS.out hlt
   obtain⟨aj,cj,hcell,hlies⟩:=hc J hlt
   have hbg:b<g0:=by rw[K.out];exact hb
   have c0:=(HB.cell (p:=⟨b,o+J,none⟩) hbg).trans hcell
   have HQK:=hid (HK.out ps[J] (List.getElem_mem hlt))
   have HTK:=hid (List.take_succ_eq_append_getElem hlt)
   obtain⟨q,hq⟩:∃q,q=ps[J]:=⟨_,rfl⟩
   rw[<-hq]at c0 hlies HQK HTK hsg
   have HLIES:=hid (show Lies w.heap.size wr aj q from hlies.keep HB.out (by rw[K.out];exact Nat.le_refl _))
   have hqz:z.length+q.length<=100000:=by rw[HZL.out];exact Nat.le_trans hsg HSUM.out
   have HQZ:=hid hqz
   have ap:(J:Int)<(ps.length:Int):=by omega
   have a7:(0:Int)<=(J:Int):=by omega
   clear hq hc hcell hlies hsg hb hbg
   by_cases hq0:0<q.length
   case pos=>
    go_wp2_with fail
    refine(spec_shift2 q (z.length:Int) aj cj _ (by omega) HQK.out (HLIES.up (by have:=HGW.out;have:=K.out;omega))).mono ?_
    rintro e w2 ⟨v2,z2,r2,rfl,C,A,b2,G⟩
    have y:z2.length=q.length:=by have:=congrArg List.length C;simpa using this
    have M2:=hid (HMK.over b2)
    rcases A.tr with ⟨_,h0⟩|⟨g2,c2,rfl,hg2,_⟩
    ·rw[h0]at y;simp at y;omega
    have ah:0<z2.length:=by omega
    have hzz:z.length+z2.length<=1048576:=by omega
    have am:g0+1<=w2.heap.size:=by have:=HGW.out;have:=b2.size;omega
    have hgS:g0+1<=wr.heap.size:=HGW.out
    have hap:∀i j,i<z.length->j<z2.length->r i≠r2 j:=fun i j hi hj=>by
     have:=HMK.out.out.lt i hi
     have:=G j hj
     omega
    have hoff:∀j,j<z2.length->(Value.slice (some ⟨gv,0,none⟩) z.length cv).ownBlock≠some (r2 j):=fun j hj e=>by
     have h1:=HMK.gv_lt.2
     have h2:=G j hj
     simp[Value.ownBlock]at e
     omega
    have az:=hid A
    have HGE:=hid G
    have a5:=hid ah
    have HZZ:=hid hzz
    have aa:=hid am
    have HGS:=hid hgS
    have HAP:=hid hap
    have HOF:=hid hoff
    have au:=hid C
    have ax:=hid y
    have ae:=hid (HB.trans (b2.mono (Nat.le_of_lt HGW.out)))
    have HKB:=hid (show ks.length<=1048576 by rw[HKL.out];omega)
    have hzv:z.length+z2.length<=100000:=by omega
    clear A G ah hzz am hgS hap hoff C y hg2 b2 b4 hbox hqz hq0 c0
    go_wp2_with (first|(refine wpList_append_pt _ rfl _ _ rfl (g0+1) wr.heap.size (.slice (some ⟨gv,0,none⟩) z.length cv) z r rfl M2.out.out g2 c2 z2 r2 az.out rfl a5.out HZZ.out aa.out HGS.out HAP.out HOF.out ?_;intro g3 c3 w3 r3 a3 ab Q b3 ay a1;have M3:=hid (M2.app ay a3 ab Q HGE.out HMK.gu_lt.2 (a1.imp (fun e=>by simpa [Value.ownBlock]using e) id));have x4:w3.cell? ⟨g0,4,none⟩=some (.slice (some ⟨gu,0,none⟩) ks.length cu):=cell4 M3.box;have aw:=hid (show g0+1<=w3.heap.size from lt_of_heap M3.box);have ar:=hid (ae.trans (b3.mono (Nat.le_succ g0))))|(refine wpList_append_int2 _ _ rfl _ _ rfl (g0+1) (.slice (some ⟨gu,0,none⟩) ks.length cu) ks rfl M3.kids rfl HKB.out aw.out ?_;intro g4 c4 w4 O b4 Z af;have M4:=hid (M3.kid O Z (af.imp (fun e=>by simpa [Value.ownBlock]using e) id));have H:w4.heap[g0]? =some (.cells #[.int .i64 n.k,.int .i64 n.op,.string n.s,.string n.t,.slice (some ⟨gu,0,none⟩) ks.length cu] 33 (0,0)):=(b4.block g0 (Nat.lt_succ_self g0)).trans M3.box;have y4:w4.cell? ⟨g0,4,none⟩=some (.slice (some ⟨gu,0,none⟩) ks.length cu):=cell4 H;have f4:w4.frozen? ⟨g0,4,none⟩=false:=frozen_of_row _ _ 4 _ _ H))
    go_roundw
    case rel=>
     have hbe:=((ar.trans (b4.mono (Nat.le_succ g0))).setCell (p:=⟨g0,4,none⟩) (Nat.le_refl _) (.slice (some ⟨g4,0,none⟩) (ks.length+1) c4))
     have a6:(makeGo (ps.take J) [] []).1.length=z.length:=by rw[<-N.out,List.length_map]
     refine⟨J+1,g3,c3,z++z2,r3,g4,c4,_,by omega,by go_num,by rw[List.length_append],M4.out, ?_,hbe⟩
     rw[HTK.out,makeGo_snoc,List.map_append,au.out,<-N.out,<-U.out,List.length_map]
     refine Prod.ext rfl ?_
     refine congrArg (fun x=>ks++[x]) ?_
     rw[List.length_append,List.length_map,List.length_map,ax.out]
     omega
    case measure=>simp[intOf];omega
   case neg=>
    have al:q=[]:=List.length_eq_zero_iff.1 (by omega)
    have ag:=hid al
    clear hq0 al
    go_wp2_with fail
    refine(spec_shift2 q (z.length:Int) aj cj _ (by omega) HQK.out (HLIES.up (by have:=HGW.out;have:=K.out;omega))).mono ?_
    rintro e w2 ⟨v2,z2,r2,rfl,C,A,b2,G⟩
    have y:z2.length=0:=by have:=congrArg List.length C;rw[ag.out]at this;simpa using this
    have M2:=hid (HMK.over b2)
    have aq:∃a2 c2,v2= .slice a2 0 c2:=by obtain⟨a2,c2,e⟩:=A.form;rw[y]at e;exact⟨a2,c2,e⟩
    obtain⟨a2,c2,rfl⟩:=aq
    have hcap:(Value.slice a2 0 c2= .slice none 0 0)\/∃ad,a2=some ad:=by
     rcases A.tr with ⟨h0,_⟩|⟨g2,c2',h0,_,_⟩
     ·exact .inl h0
     ·injection h0 with h0 _ _;exact .inr ⟨_,h0⟩
    have HCAP:=hid hcap
    have ae:=hid (HB.trans (b2.mono (Nat.le_of_lt HGW.out)))
    have HKB:=hid (show ks.length<=1048576 by rw[HKL.out];omega)
    have aa:=hid (show g0+1<=w2.heap.size from lt_of_heap M2.box)
    have x4:w2.cell? ⟨g0,4,none⟩=some (.slice (some ⟨gu,0,none⟩) ks.length cu):=cell4 M2.box
    have hzv:z.length<=100000:=by omega
    clear A G C y b2 b4 hbox hqz c0 hcap
    go_wp2_with (first|(refine append_zero rfl _ _ rfl (g0+1) gv cv z r rfl M2.out.out a2 c2 rfl HCAP.out ?_)|(refine wpList_append_int2 _ _ rfl _ _ rfl (g0+1) (.slice (some ⟨gu,0,none⟩) ks.length cu) ks rfl M2.kids rfl HKB.out aa.out ?_;intro g4 c4 w4 O b4 Z af;have M4:=hid (M2.kid O Z (af.imp (fun e=>by simpa [Value.ownBlock]using e) id));have H:w4.heap[g0]? =some (.cells #[.int .i64 n.k,.int .i64 n.op,.string n.s,.string n.t,.slice (some ⟨gu,0,none⟩) ks.length cu] 33 (0,0)):=(b4.block g0 (Nat.lt_succ_self g0)).trans M2.box;have y4:w4.cell? ⟨g0,4,none⟩=some (.slice (some ⟨gu,0,none⟩) ks.length cu):=cell4 H;have f4:w4.frozen? ⟨g0,4,none⟩=false:=frozen_of_row _ _ 4 _ _ H))
    go_roundw
    case rel=>
     have hbe:=((ae.trans (b4.mono (Nat.le_succ g0))).setCell (p:=⟨g0,4,none⟩) (Nat.le_refl _) (.slice (some ⟨g4,0,none⟩) (ks.length+1) c4))
     refine⟨J+1,gv,cv,z,r,g4,c4,_,by omega,by go_num,by first|rfl|simp,M4.out, ?_,hbe⟩
     rw[HTK.out,makeGo_snoc,ag.out,List.map_nil,List.append_nil,<-N.out,<-U.out]
     refine Prod.ext rfl ?_
     refine congrArg (fun x=>ks++[x]) ?_
     rw[List.length_map]
    case measure=>simp[intOf];omega
  ·obtain rfl:J=ps.length:=by omega
   have hkv:KidV (g0+1) wr gu (.slice (some ⟨gu,0,none⟩) ks.length cu) ks:=by
    rcases HMK.kids.blkM with ⟨h,_⟩|⟨g,c,h,hg,hb,hm⟩
    ·cases h
    ·injection h with h1 _ h3
     injection h1 with h1
     injection h1 with h1 _ _
     subst h1 h3
     exact .inr ⟨_,rfl,hb,hg,hm⟩
   have HKV:=hid (show KidV (g0+1) wr gu (.slice (some ⟨gu,0,none⟩) ks.length cu) ({n with kids:=ks}:Nd).kids from hkv)
   have HZB:=hid (show z.length<=1048576 by omega)
   have HGS:=hid (show g0+1<=wr.heap.size from HGW.out)
   have HGU:=hid HMK.gu_lt.2
   have HOF:=hid (show(Value.slice (some ⟨gv,0,none⟩) z.length cv).ownBlock≠some gu from fun e=>by simp[Value.ownBlock]at e;exact HMK.ne e)
   have b0:wr.cell? ⟨g0,0,none⟩=some (.int .i64 n.k):=by rw[cell_of_row _ _ 0 _ _ _ hbox];rfl
   have b1:wr.cell? ⟨g0,1,none⟩=some (.int .i64 n.op):=by rw[cell_of_row _ _ 1 _ _ _ hbox];rfl
   have b2:wr.cell? ⟨g0,2,none⟩=some (.string n.s):=by rw[cell_of_row _ _ 2 _ _ _ hbox];rfl
   have b3:wr.cell? ⟨g0,3,none⟩=some (.string n.t):=by rw[cell_of_row _ _ 3 _ _ _ hbox];rfl
   have ap:¬(ps.length:Int)<(ps.length:Int):=by omega
   clear hkv hbox
   go_wp2_with (refine wpList_append_node _ ({n with kids:=ks}:Nd) _ rfl _ _ rfl (g0+1) (.slice (some ⟨gv,0,none⟩) z.length cv) z r gu rfl HMK.out.out rfl rfl HZB.out HGS.out HKV.out HMK.row HGU.out HOF.out ?_;intro v' r' w4 ao a0 ab Q)
   go_ret
   have HG:=K.out
   refine⟨_,_,r',rfl, ?_,ao.up (by omega),by rw[<-HG];exact HB.trans (a0.mono (Nat.le_succ g0)),fun i hi=> ?_⟩
   rotate_left
   ·rw[<-HG]
    simp at hi
    by_cases he:i<z.length
    ·rw[ab i he];exact Nat.le_of_lt (HMK.gt i he)
    ·rw[show i=z.length by omega,Q];exact Nat.le_of_lt HMK.gu_lt.1
   rw[List.map_append,N.out,List.take_length,U.out,List.take_length]
   rfl
end Go.Proofs.YtebjmdpkobhcbaaGreatDoor.nd
namespace Go.Proofs.YtebjmdpkobhcbaaGreatDoor.qs
open Lib (hid)
open Go.ChangeShapes Go.WideShapes Go.ChangeAt Go.RowKit
open tk (Tk)
open nd (Nd PT KidV makeT)
open ps (Ps posOk)
open pe
open rt (isLval)
open operand (begins)
open lv (opLevel)
open pr (Bk Gr X0 below_drewN eq_facts ne_facts fld_k fld_s)
set_option linter.unusedVariables false
set_option linter.unusedSimpArgs false
set_option maxRecDepth 20000
def Wk(K:Nat)(t:List Nd):Prop:=t.length<=K/\∀n∈t,n.kids.length<=6
theorem go_wk:∀(ps:List (List Nd)) (out:List Nd) (ks:List Int),(∀q∈ps,∀n∈q,n.kids.length<=6)->(∀n∈out,n.kids.length<=6)->∀n∈(nd.makeGo ps out ks).1,n.kids.length<=6:=by
 intro ps
 induction ps with
 |nil=>intro out ks _ h n hn;exact h n hn
 |cons q ps ih=>
  intro out ks h1 h2 n hn
  unfold nd.makeGo at hn
  refine ih _ _ (fun q' hq=>h1 q' (List.mem_cons_of_mem _ hq)) ?_ n hn
  intro m hm
  rcases List.mem_append.1 hm with hm|hm
  ·exact h2 m hm
  ·obtain⟨x,hx,rfl⟩:=List.mem_map.1 hm
   show(nd.shK _ x.kids).length<=6
   rw[nd.shK_len]
   exact h1 q (List.mem_cons_self ..) x hx
theorem wk_make{K:Nat}{k op:Int}{s:ByteArray}{ps:List (List Nd)}(h:∀q∈ps,∀n∈q,n.kids.length<=6)(hl:ps.length<=6)(hs:nd.sumL ps+1<=K):Wk K (makeT (nd0 k op s) ps):=by
 refine⟨by rw[make_len];exact hs, ?_⟩
 intro n hn
 unfold makeT at hn
 rcases List.mem_append.1 hn with hn|hn
 ·exact go_wk ps [] [] h (fun n hn=>by simp at hn) n hn
 ·rw[List.mem_singleton]at hn
  subst hn
  show((nd.makeGo ps [] []).2).length<=6
  rw[nd.makeGo_klen]
  simpa using hl
def atQ:R->Nat
 | .bad j=>j
 | .ok _ _ _ j=>j
def bdQ:R->Bool
 | .bad _=>true
 | .ok _ _ _ _=>false
def bB(bd:Bool)(j:Nat)(r:R):R:=if bd=true then .bad j else r
theorem bB_f(j:Nat)(r:R):bB false j r=r:=rfl
def GtR(i:Nat)(t:List Nd)(h:Bool):R->Prop
 | .bad j=>Wk (2*(j-i)) t
 | .ok _ tg t' _=>t=t'/\tg=put h t
def Rq(w0:World)(l:List Tk)(a:Option Addr)(cap:Nat)(N0:List Tk)(s:Nat)(i:Nat)(v:Value)(w:World)(r:R)(e:Ending)(w':World):Prop:=
 ∃T t h v',e= .returned (.agg #[T,.bool h])/\Sq w0 l a cap N0 s (atQ r) (bdQ r) v' w'/\Gr (X0 w0.heap.size) v v' w w'/\Tq w0.heap.size w.heap.size T t v' w'/\GtR i t h r
def CallS(w0:World)(l:List Tk)(a:Option Addr)(cap:Nat)(N0:List Tk)(s:Nat)(E:Ps->Nat->R)(j0:Nat):Prop:=
 ∀(L:Int) (i g bd:Bool) (j:Nat) (v:Value) (w:World),1<=L->L<=15->j0<=j->Sq w0 l a cap N0 s j bd v w->
  Calls Tryz.prog 63 #[.pointer (some ⟨w0.heap.size,0,none⟩),.agg #[.int .i64 L,.bool false,.bool i,.bool g,.bool false]] w (Rq w0 l a cap N0 s j v w (bB bd j (E (cp L i g) j)))
theorem CallS.up{w0:World}{l:List Tk}{a:Option Addr}{cap:Nat}{N0:List Tk}{s:Nat}{E:Ps->Nat->R}{j0 j1:Nat}(h:CallS w0 l a cap N0 s E j0)(h1:j0<=j1):CallS w0 l a cap N0 s E j1:=fun L i g bd j v w a1 a2 a3=>h L i g bd j v w a1 a2 (Nat.le_trans h1 a3)
theorem gt_wk{l:List Tk}{M i:Nat}{t:List Nd}{h:Bool}{r:R}(hg:GtR i t h r)(ho:Ok M l i r):Wk (2*(atQ r-i)) t:=by
 cases r with
 |bad j=>exact hg
 |ok lv tg t' j=>
  obtain⟨rfl,-⟩:=hg
  obtain⟨h1,h2,h3,h4,h5,h6⟩:=ho
  exact⟨by show t.length<=2*(j-i);omega,fun n hn=>(h6 n hn).1⟩
theorem gt_wk1{l:List Tk}{M i:Nat}{t:List Nd}{h:Bool}{lv:Int}{tg:Bool}{t':List Nd}{j:Nat}(hg:GtR i t h (.ok lv tg t' j))(ho:Ok M l i (.ok lv tg t' j)):Wk (2*(j-i)-1) t:=by
 obtain⟨rfl,-⟩:=hg
 obtain⟨h1,h2,h3,h4,h5,h6⟩:=ho
 exact⟨by omega,fun n hn=>(h6 n hn).1⟩
theorem ok_at{l:List Tk}{M i:Nat}{r:R}(h:Ok M l i r):i<=atQ r/\atQ r<=l.length:=by
 cases r with
 |bad j=>exact h
 |ok lv tg t j=>exact⟨Nat.le_of_lt h.1,h.2.1⟩
section
variable {w0:World} {l:List Tk} {a:Option Addr} {cap:Nat} {N0:List Tk} {s i:Nat} {v v1:Value} {w w1:World} {r:R}
theorem rq_end{g B:Nat}{c:Array Value}{ty:TypeId}{T:Value}{t:List Nd}{h:Bool}(hlt:w0.heap.size<w.heap.size)(S:Sq w0 l a cap N0 s (atQ r) (bdQ r) v1 w1)(G:Gr (X0 w0.heap.size) v v1 w w1)(m:Mq w0.heap.size g c ty v1 w1)(H:Tq w0.heap.size B T t v1 w1)(hg:w.heap.size<=g)(hB:g<B)(q:GtR i t h r):
  Rq w0 l a cap N0 s i v w r (.returned (.agg #[T,.bool h])) ((w1.setCell ⟨g,0,none⟩ T).setCell ⟨g,1,none⟩ (.bool h)):=by
 refine⟨T,t,h,v1,rfl,(S.mset m 0 _).mset (m.set 0 _) 1 _,(G.set (.inr hg) 0 _).set (.inr hg) 1 _, ?_,q⟩
 exact Tq.up ((H.low hB 0 _).low hB 1 _) (by omega) hlt
end
theorem pt_low{B g:Nat}{T:Value}{z:List (Nd×Value)}{r:Nat->Nat}{w:World}(h:PT B T z r w)(hr:∀j,j<z.length->B<=r j)(hg:g<B)(k:Nat)(u:Value):PT B T z r (w.setCell ⟨g,k,none⟩ u):=by
 have hk:∀k',k'≠g->(w.setCell ⟨g,k,none⟩ u).heap[k']? =w.heap[k']? :=fun k' h=>heap_setCell_other w ⟨g,k,none⟩ k' u h
 refine pt_same h (by simp) (fun g2 o=>hk _ ?_) (fun j hj=>hk _ ?_)
 ·have:=(World.ownsRow.lt h.own _ o).1;omega
 ·have:=hr j hj;omega
theorem pt_up{B B':Nat}{T:Value}{z:List (Nd×Value)}{r:Nat->Nat}{w:World}(hp:PT B T z r w)(hB:B'<=B):PT B' T z r w:=
 ⟨⟨hp.own.1,hp.own.2.elim .inl (fun⟨g,cap,cur,hv,hg,r⟩=> .inr ⟨g,cap,cur,hv,Nat.le_trans hB hg,r⟩)⟩,fun i hi=>(hp.kid i hi).elim .inl (fun⟨cap,h1,h2,h3,h4⟩=> .inr ⟨cap,h1,h2,Nat.le_trans hB h3,h4⟩),hp.off,hp.asc,hp.lt⟩
theorem Parts.up'{B B':Nat}{w:World}{a:Option Addr}{ps:List (List Nd)}(h:nd.Parts B w a ps)(hB:B<=B'):nd.Parts B' w a ps:=by
 rcases h with h|⟨b,o,rfl,hlt,hc⟩
 ·exact .inl h
 ·refine .inr ⟨b,o,rfl,by omega,fun i hi=> ?_⟩
  obtain⟨ai,ci,h1,h2⟩:=hc i hi
  exact⟨ai,ci,h1,h2.up hB⟩
def Ov(t:List Nd)(w:World)(e:Ending)(w':World):Prop:=
 ∃T z r,e= .returned (.agg #[T,.bool false])/\z.map (·.1)=t/\PT w.heap.size T z r w'/\Below w.heap.size w w'/\∀j,j<z.length->w.heap.size<=r j
set_option maxHeartbeats 3200000 in
theorem over_any(k op:Int)(sx:ByteArray)(ps:List (List Nd))(a':Option Addr)(cap':Nat)(w:World)(hps:nd.Parts w.heap.size w a' ps)(hsum:nd.sumL ps<=100000)(hlen:ps.length<=1000)(hk:∀q∈ps,∀t∈q,t.kids.length<=6):
  Calls Tryz.prog 109 #[.agg #[.int .i64 k,.int .i64 op,.string sx,.string ⟨#[]⟩,.slice none 0 0],.slice a' ps.length cap'] w (Ov (makeT (nd0 k op sx) ps) w):=by
 obtain⟨W,hW⟩:∃W,W=(w.alloc (.cells #[.int .i64 k,.int .i64 op,.string sx,.string ⟨#[]⟩,.slice none 0 0] 33)).alloc (.cells #[.slice none 0 0,.bool false] 95):=⟨_,rfl⟩
 have hB:=hid (show Below w.heap.size w W by rw[hW];exact((Below.refl _ _).alloc (Nat.le_refl _) _).alloc (by simp) _)
 have o:=hid (show Bk w.heap.size #[.int .i64 k,.int .i64 op,.string sx,.string ⟨#[]⟩,.slice none 0 0] 33 W by rw[hW];exact(Bk.new _ _ _).alloc _)
 have R0:=hid (show Bk (w.heap.size+1) #[.slice none 0 0,.bool false] 95 W by
  rw[hW]
  have:=Bk.new (w.alloc (.cells #[.int .i64 k,.int .i64 op,.string sx,.string ⟨#[]⟩,.slice none 0 0] 33)) #[.slice none 0 0,.bool false] 95
  simpa using this)
 have n0:=o.c5
 have HMK:=hid (nd.make_all (nd0 k op sx) ps a' cap' W (Parts.up' (hps.keep hB.out (Nat.le_refl _)) hB.out.size) hsum hlen (fun q hq t ht=>Nat.le_trans (hk q hq t ht) (by decide)))
 obtain⟨np,hnp⟩:∃np,ps.length=np:=⟨_,rfl⟩
 rw[hnp]at HMK|-
 rw[hW]at n0
 clear hps hsum hlen hk hnp
 go_enter Tryz.func109,Tryz.ntmps109
 go_wp2_with fail
 rw[<-hW]
 clear hW n0
 refine HMK.mono ?_
 rintro e w1 ⟨T,z,r,rfl,hz,hp,b1,hr⟩
 have R1:=hid (R0.keep b1)
 have B1:=hid (hB.out.trans (b1.mono hB.out.size))
 have HZ:=hid hz
 have HP:=hid hp
 have HR:=hid hr
 have HLT:=hid R0.lt
 obtain⟨aT,cT,eT⟩:=hp.form
 subst eT
 have r0:=R1.c2
 have g0:=R1.f
 clear hz hp hr b1
 go_wp2
 obtain⟨t0,t1⟩:=(R1.put2 (.slice aT z.length cT) (.bool false)).c2
 exact bodyPost_ret (v:= .agg #[.slice aT z.length cT,.bool false]) (by simp[results,Tryz.results109,go_sem,t0,t1]) rfl ⟨_,z,r,rfl,HZ.out,pt_up (pt_low (pt_low HP.out HR.out HLT.out 0 _) HR.out HLT.out 1 _) hB.out.size,pr.below_put2 B1.out (Nat.le_succ _) _ _,fun j hj=>Nat.le_trans hB.out.size (HR.out j hj)⟩
theorem parts_new{w:World}(ty:TypeId)(xs:List (Option Addr×Nat×List Nd))(h:∀x∈xs,nd.Lies w.heap.size w x.1 x.2.2):
  nd.Parts (w.alloc (.cells (xs.map fun x=>Value.slice x.1 x.2.2.length x.2.1).toArray ty)).heap.size (w.alloc (.cells (xs.map fun x=>Value.slice x.1 x.2.2.length x.2.1).toArray ty)) (some ⟨w.heap.size,0,none⟩) (xs.map (·.2.2)):=by
 refine .inr ⟨w.heap.size,0,rfl,by simp,fun i hi=> ?_⟩
 have hi':i<xs.length:=by simpa using hi
 refine⟨xs[i].1,xs[i].2.1, ?_, ?_⟩
 ·rw[cell_of_row _ _ _ _ _ _ (heap_alloc_new w _)]
  simp[hi']
 ·have:=h xs[i] (List.getElem_mem hi')
  simp only[List.getElem_map]
  exact(this.keep ((Below.refl _ w).alloc (Nat.le_refl _) _) (Nat.le_refl _)).up (by simp)
theorem parts1{w:World}{a1:Option Addr}{c1:Nat}{t1:List Nd}(ty:TypeId)(h1:nd.Lies w.heap.size w a1 t1):nd.Parts (w.alloc (.cells #[.slice a1 t1.length c1] ty)).heap.size (w.alloc (.cells #[.slice a1 t1.length c1] ty)) (some ⟨w.heap.size,0,none⟩) [t1]:=
 parts_new ty [(a1,c1,t1)] (fun x hx=>by rw[List.mem_singleton]at hx;subst hx;exact h1)
theorem parts2{w:World}{a1 a2:Option Addr}{c1 c2:Nat}{t1 t2:List Nd}(ty:TypeId)(h1:nd.Lies w.heap.size w a1 t1)(h2:nd.Lies w.heap.size w a2 t2):nd.Parts (w.alloc (.cells #[.slice a1 t1.length c1,.slice a2 t2.length c2] ty)).heap.size (w.alloc (.cells #[.slice a1 t1.length c1,.slice a2 t2.length c2] ty)) (some ⟨w.heap.size,0,none⟩) [t1,t2]:=
 parts_new ty [(a1,c1,t1),(a2,c2,t2)] (fun x hx=>by simp at hx;rcases hx with rfl|rfl<;>assumption)
theorem parts3{w:World}{a1 a2 a3:Option Addr}{c1 c2 c3:Nat}{t1 t2 t3:List Nd}(ty:TypeId)(h1:nd.Lies w.heap.size w a1 t1)(h2:nd.Lies w.heap.size w a2 t2)(h3:nd.Lies w.heap.size w a3 t3):nd.Parts (w.alloc (.cells #[.slice a1 t1.length c1,.slice a2 t2.length c2,.slice a3 t3.length c3] ty)).heap.size (w.alloc (.cells #[.slice a1 t1.length c1,.slice a2 t2.length c2,.slice a3 t3.length c3] ty)) (some ⟨w.heap.size,0,none⟩) [t1,t2,t3]:=
 parts_new ty [(a1,c1,t1),(a2,c2,t2),(a3,c3,t3)] (fun x hx=>by simp at hx;rcases hx with rfl|rfl|rfl<;>assumption)
end Go.Proofs.YtebjmdpkobhcbaaGreatDoor.qs
