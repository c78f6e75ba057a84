/- A part of the proof; no condition of its own. -/
import Derived.Test.YtebjmdpkobhcbaaGreatDoorCards
import Derived.Test.YtebjmdpkobhcbaaGreatDoorTie
import Derived.Test.YtebjmdpkobhcbaaGreatDoorZGSp
import Derived.Test.YtebjmdpkobhcbaaGreatDoorZGRt
import Derived.Test.YtebjmdpkobhcbaaGreatDoorZGPi
import Derived.Test.YtebjmdpkobhcbaaGreatDoorZGMw
import Derived.Test.YtebjmdpkobhcbaaGreatDoorZGMt
import Derived.Test.YtebjmdpkobhcbaaGreatDoorZGOp
import Derived.OpenVars
import Derived.Deep.DeepHandedRow
import Derived.Deep.RegionHeld3
import Derived.Deep.DeepCutAuto
import Derived.Lib.SmallJoins
import Derived.Stop.LaidErr
namespace Go.Proofs.YtebjmdpkobhcbaaGreatDoor.lawParseExpr
open Lib (hid)
open Go.ChangeShapes Go.WideShapes Go.ChangeAt Go.RowKit
open spell (Held held)
open nd mark
open tk (Tk)
open pr (Bk POut)
open pe (parse finish Out)
open ps (Ps top)
set_option linter.unusedVariables false
set_option linter.unusedSimpArgs false
set_option maxRecDepth 20000
theorem nx{B:Nat}{w W w1:World}(h:Below B w W)(hB:B≤W.heap.size)(b:Below W.heap.size W w1):Below B w w1:=h.trans (b.mono hB)
theorem undrew{B:Nat}{W w1:World}(h:Below B W.drew w1):Below B W w1:=⟨h.os,h.tape,h.output,h.size,h.block⟩
theorem sz_fit{l:List Tk}{left:Nat}(h:l.length+tk.tot l≤left):tk.sz l left=((left-(l.length+tk.tot l):Nat):Int):=by
 unfold tk.sz tk.left1
 rw[if_pos h]
 omega
theorem sz_no{l:List Tk}{left:Nat}(h:¬l.length+tk.tot l≤left):tk.sz l left= -1:=by
 unfold tk.sz tk.left1
 rw[if_neg h]
theorem fit_box{a:Option Addr}{l:List Tk}{w:World}(h:tk.Lies w.heap.size w a l)(o:Obj):tk.Lies (w.alloc o).heap.size (w.alloc o) a l:=(h.keep ((Below.refl w.heap.size w).alloc (Nat.le_refl _) o) (Nat.le_refl _)).up (by simp)
theorem drew_alloc(w:World)(o:Obj):(w.alloc o).drew=w.drew.alloc o:=rfl
theorem either{W0 A U:World}{c:Array Value}{ty:TypeId}(hA:Below W0.heap.size W0 A)(h:U=A∨U=A.alloc (.cells c ty)):Below W0.heap.size W0 U∧(U=A.alloc (.cells c ty)→Bk A.heap.size c ty U):=by
 constructor
 ·rcases h with rfl|rfl
  ·exact hA
  ·exact hA.alloc hA.size _
 ·rintro rfl
  exact Bk.new _ _ _
theorem lies3{A U:World}{c:Array Value}{ty:TypeId}{a:Option Addr}{l:List Tk}(hl:tk.Lies A.heap.size A a l)(h:U=A∨U=A.alloc (.cells c ty)):tk.Lies U.heap.size U a l:=by
 rcases h with rfl|rfl
 ·exact hl
 ·exact fit_box hl _
theorem toks3{l:List Tk}{a:Option Addr}{W0 A:World}(cap:Nat)(c:Array Value)(ty:TypeId)(hn:l.length≤1048576)(hA:Below W0.heap.size W0 A)(hl:tk.Lies A.heap.size A a l)(U:World)(h:U=A∨U=A.alloc (.cells c ty)):
  Calls Tryz.prog 25 #[.slice a l.length cap] U fun e w3=>∃g,e= .returned (.slice (some ⟨g,0,none⟩) l.length l.length)∧Below W0.heap.size W0 w3∧tk.Lies w3.heap.size w3 (some ⟨g,0,none⟩) l∧(U=A.alloc (.cells c ty)→Bk A.heap.size c ty w3):=by
 refine(tk.to_toks l a cap U hn (lies3 hl h)).mono ?_
 rintro e w3 ⟨rfl,b3,k3⟩
 have b0:=either hA h
 exact⟨_,rfl,nx b0.1 b0.1.size b3,k3.lies,fun hu=>(b0.2 hu).keep b3⟩
theorem pos3(p:Ps){l:List Tk}{a:Option Addr}{W0 A:World}{c:Array Value}{ty:TypeId}(hl:tk.Lies A.heap.size A a l)(hA:Below W0.heap.size W0 A){U:World}(h:U=A∨U=A.alloc (.cells c ty)):
  Calls Tryz.prog 26 #[.agg #[.int .i64 p.l,.bool p.d,.bool p.i,.bool p.g,.bool p.s]] U fun e w3=>e= .returned (.agg #[.int .i64 p.l,.bool p.d,.bool p.i,.bool p.g,.bool p.s])∧Below W0.heap.size W0 w3∧tk.Lies w3.heap.size w3 a l∧(U=A.alloc (.cells c ty)→Bk A.heap.size c ty w3)∧(U=A→∀g d t,Bk g d t A→Bk g d t w3):=by
 refine(ps.to_pos p.l p.d p.i p.g p.s U).mono ?_
 rintro e w3 ⟨rfl,b3⟩
 have b0:=either hA h
 exact⟨rfl,nx b0.1 b0.1.size b3,((lies3 hl h).keep b3 (Nat.le_refl _)).up b3.size,fun hu=>(b0.2 hu).keep b3,fun hu g d t hb=>by subst hu;exact hb.keep b3⟩
theorem above2{S g:Nat}{a:Option Addr}{c:Nat}{q:List Nd}{w:World}(h:GO S a c q w)(hg:g<S)(y0 y1:Value):Lies ((w.setCell ⟨g,0,none⟩ y0).setCell ⟨g,1,none⟩ y1).heap.size ((w.setCell ⟨g,0,none⟩ y0).setCell ⟨g,1,none⟩ y1) a q:=by
 have h2:Above S w ((w.setCell ⟨g,0,none⟩ y0).setCell ⟨g,1,none⟩ y1):=(Above.set hg _).trans (Above.set hg _) (by simp)
 rcases h.own with h|⟨g2,r,e,hS,ht⟩
 ·exact .inl h
 ·rw[e]
  exact(Tr.above ht h2 (by simp) hS).lies
theorem spec3{l:List Tk}{p:Ps}{q:List Nd}{n:Nat}{k f:Int}{a:Option Addr}{W0 A:World}{c:Array Value}{ty:TypeId}
  (HRS:Hid (∀a2 c2 W2,tk.Lies W2.heap.size W2 a2 l→Calls Tryz.prog 24 #[.slice a2 l.length c2,.agg #[.int .i64 p.l,.bool p.d,.bool p.i,.bool p.g,.bool p.s]] W2 fun e w'=>∃v z r,e= .returned (.tuple #[v,.int .i64 (n:Int),.agg #[.int .i64 k,.int .i64 f]])∧z.map (·.1)=q∧PT W2.heap.size v z r w'∧Below W2.heap.size W2 w'))
  (hl:tk.Lies A.heap.size A a l) (hA:Below W0.heap.size W0 A) {c2:Nat} {U:World} (h:U=A∨U=A.alloc (.cells c ty)):
  Calls Tryz.prog 24 #[.slice a l.length c2,.agg #[.int .i64 p.l,.bool p.d,.bool p.i,.bool p.g,.bool p.s]] U fun e w3=>∃a0 c0,e= .returned (.tuple #[.slice a0 q.length c0,.int .i64 (n:Int),.agg #[.int .i64 k,.int .i64 f]])∧GO U.heap.size a0 c0 q w3∧Below W0.heap.size W0 w3∧(U=A.alloc (.cells c ty)→Bk A.heap.size c ty w3)∧(U=A→∀g d t,Bk g d t A→Bk g d t w3):=by
 refine(HRS.out a c2 U (lies3 hl h)).mono ?_
 rintro e w3 ⟨v0,z0,r0,rfl,o,y,b3⟩
 obtain⟨a0,c0,rfl,C⟩:=GO.of y o
 have b0:=either hA h
 exact⟨_,_,rfl,C,nx b0.1 b0.1.size b3,fun hu=>(b0.2 hu).keep b3,fun hu g d t hb=>by subst hu;exact hb.keep b3⟩
theorem impl3{l:List Tk}{p:Ps}{q:List Nd}{n:Nat}{k f:Int}{a:Option Addr}{W0 A:World}{c:Array Value}{ty:TypeId}
  (HRI:Hid (∀a2 c2 W2,tk.Lies W2.heap.size W2 a2 l→Held W2→Calls Tryz.prog 18 #[.slice a2 l.length c2,.agg #[.int .i64 p.l,.bool p.d,.bool p.i,.bool p.g,.bool p.s]] W2 fun e w'=>∃v z r,e= .returned (.tuple #[v,.int .i64 (n:Int),.agg #[.int .i64 k,.int .i64 f]])∧z.map (·.1)=q∧PT W2.heap.size v z r w'∧Below W2.heap.size W2 w'))
  (hl:tk.Lies A.heap.size A a l) (hA:Below W0.heap.size W0 A) (hh:Held W0) {c2:Nat} {U:World} (h:U=A∨U=A.alloc (.cells c ty)):
  Calls Tryz.prog 18 #[.slice a l.length c2,.agg #[.int .i64 p.l,.bool p.d,.bool p.i,.bool p.g,.bool p.s]] U fun e w3=>∃a0 c0,e= .returned (.tuple #[.slice a0 q.length c0,.int .i64 (n:Int),.agg #[.int .i64 k,.int .i64 f]])∧GO U.heap.size a0 c0 q w3∧Below W0.heap.size W0 w3∧(U=A.alloc (.cells c ty)→Bk A.heap.size c ty w3)∧(U=A→∀g d t,Bk g d t A→Bk g d t w3):=by
 refine(HRI.out a c2 U (lies3 hl h) (hh.below (either hA h).1)).mono ?_
 rintro e w3 ⟨v0,z0,r0,rfl,o,y,b3⟩
 obtain⟨a0,c0,rfl,C⟩:=GO.of y o
 have b0:=either hA h
 exact⟨_,_,rfl,C,nx b0.1 b0.1.size b3,fun hu=>(b0.2 hu).keep b3,fun hu g d t hb=>by subst hu;exact hb.keep b3⟩
theorem st{a b c:World}(h:Below a.heap.size a b)(k:Below b.heap.size b c):Below a.heap.size a c:=h.trans (k.mono h.size)
theorem abv{S:Nat}{a:Option Addr}{c:Nat}{q:List Nd}{w w':World}(h:GO S a c q w)(h2:Above S w w')(hs:w.heap.size≤w'.heap.size):GO S a c q w':=by
 refine⟨h.own.imp id ?_⟩
 rintro⟨g2,r,e,hS,ht⟩
 exact⟨g2,r,e,hS,Tr.above ht h2 hs hS⟩
theorem mem_tot{l:List Tk}{t:Tk}(h:t∈l):t.s.size≤tk.tot l:=by
 induction l with
 |nil=>simp at h
 |cons x l ih=>
  simp only[tk.tot]
  rcases List.mem_cons.1 h with rfl|h
  ·omega
  ·have:=ih h;omega
theorem parse_small{l:List tk.Tk}{p:ps.Ps}{M:Nat}(hM:∀t∈l,t.s.size≤M):(parse l p).t.length≤400∧∀n∈(parse l p).t,n.kids.length≤6:=by
 have nil:([]:List Nd).length≤400∧∀n∈([]:List Nd),n.kids.length≤6:=⟨by simp,fun n hn=>by simp at hn⟩
 unfold parse
 split
 ·split
  ·next h=>
   obtain⟨-,h3,-⟩:=pe.toks_len h
   have hok:=pe.ex_ok (l:=l) hM (by omega) (l.length+1) p 0 (Nat.zero_le _)
   cases hr:pe.ex l (l.length+1) p 0 with
   |bad j=>exact nil
   |ok lv tg t j=>
    rw[hr]at hok
    unfold finish
    simp only
    split
    ·next h4=>exact⟨(pe.sf_ok h4).1,fun n hn=>(hok.2.2.2.2.2 n hn).1⟩
    ·exact nil
  ·exact nil
 ·exact nil
set_option maxHeartbeats 6400000 in
theorem walkP(l:List Tk)(a:Option Addr)(cap:Nat)(p:Ps)(w:World)(hc:tk.Lies w.heap.size w a l)(hn:l.length≤maxLen)(hm:∀t∈l,t.s.size≤maxLen)(hh:Held w):
  Calls Tryz.prog 7 #[.slice a l.length cap,.agg #[.int .i64 p.l,.bool p.d,.bool p.i,.bool p.g,.bool p.s]] w fun e w'=>e= .returned (.bool true)∧Below w.heap.size w w':=by
 have HN:=hid hn
 have HM:=hid hm
 have C:=hid (show Below w.heap.size w (w.alloc (.cells #[.int .i64 p.l,.bool p.d,.bool p.i,.bool p.g,.bool p.s] 49))from(Below.refl _ _).alloc (Nat.le_refl _) _)
 have HC:=hid ((hc.keep C.out (Nat.le_refl _)).up C.size)
 have HH:=hid (hh.below C.out)
 have HZ:=hid (show∀W,Below (w.alloc (.cells #[.int .i64 p.l,.bool p.d,.bool p.i,.bool p.g,.bool p.s] 49)).heap.size (w.alloc (.cells #[.int .i64 p.l,.bool p.d,.bool p.i,.bool p.g,.bool p.s] 49)) W→W.cell? ⟨w.heap.size,0,none⟩=some (.int .i64 p.l)∧W.cell? ⟨w.heap.size,1,none⟩=some (.bool p.d)∧W.cell? ⟨w.heap.size,2,none⟩=some (.bool p.i)∧W.cell? ⟨w.heap.size,3,none⟩=some (.bool p.g)∧W.cell? ⟨w.heap.size,4,none⟩=some (.bool p.s)from fun W hb=>by
  have ab:=(hb.block w.heap.size (by simp)).trans (heap_alloc_new w (.cells #[.int .i64 p.l,.bool p.d,.bool p.i,.bool p.g,.bool p.s] 49))
  exact⟨by rw[cell_of_row _ _ 0 _ _ _ ab];rfl,by rw[cell_of_row _ _ 1 _ _ _ ab];rfl,by rw[cell_of_row _ _ 2 _ _ _ ab];rfl,by rw[cell_of_row _ _ 3 _ _ _ ab];rfl,by rw[cell_of_row _ _ 4 _ _ _ ab];rfl⟩)
 clear hc hm hn hh
 obtain⟨W0,hW⟩:∃W,W=(w.alloc (.cells #[.int .i64 p.l,.bool p.d,.bool p.i,.bool p.g,.bool p.s] 49)):=⟨_,rfl⟩
 by_cases h1:l.length+tk.tot l≤1048576
 ·obtain⟨LL,hLL⟩:∃L:Nat,L=1048576-(l.length+tk.tot l):=⟨_,rfl⟩
  have H1:=hid (show tk.sz l 1048576=(LL:Int) by rw[sz_fit h1,←hLL])
  have z1:¬(LL:Int)<0:=by omega
  have hlb:l.length≤1048576:=by omega
  have hms:∀t∈l,t.s.size≤1048576:=fun t ht=>by have:=mem_tot ht;omega
  have hsm:=parse_small (l:=l) (p:=p) hms
  have HRS:=hid (fun a2 c2 W2 (h2:tk.Lies W2.heap.size W2 a2 l)=>qs.parse_any l a2 c2 p W2 h2 hlb hms)
  have HRI:=hid (fun a2 c2 W2 (h2:tk.Lies W2.heap.size W2 a2 l) hh2=>pr.impl_parse l a2 c2 p W2 h2 hlb hms hh2)
  have HTT:=hid (fun W2 (h2:tk.Lies W2.heap.size W2 a l)=>tk.to_toks l a cap W2 hlb h2)
  obtain⟨O,hO⟩:∃O,parse l p=O:=⟨_,rfl⟩
  rw[hO]at hsm HRS HRI
  obtain⟨q,n,k,f⟩:=O
  unfold POut at HRS HRI
  simp only at hsm HRS HRI
  have HQL:=hid hsm.1
  have bh:=hid hsm.2
  have hqb:q.length≤1048576:=by have:=hsm.1;omega
  have HQK:=hid (show∀t∈q,t.kids.length≤1048576 from fun t ht=>by have:=hsm.2 t ht;omega)
  have aC:=hid (show∀I,endM ((lens q).take I) 1≤6000000 from fun I=>by
   have:=end_few q I hsm.1 hsm.2
   rwa [show lens (q.take I)=(lens q).take I by simp[lens,List.map_take]]at this)
  have aM:=hid (show∀x∈lens q,x≤1048576 from fun x hx=>by
   obtain⟨t,ht,rfl⟩:=List.mem_map.1 hx
   exact HQK.out t ht)
  have HLN:=hid (show(lens q).length=q.length by simp[lens])
  obtain⟨m,hme⟩:∃m,m=endM (lens q) 1:=⟨_,rfl⟩
  have HME:=hid hme
  have zm:¬(m:Int)<0:=by omega
  have zz:((m:Int) !=(m:Int))=false:=by simp
  have zn:((n:Int) !=(n:Int))=false:=by simp
  have HLB:=hid hlb
  clear h1 hLL hms hO hsm hme
  go_enter Tryz.func7,Tryz.ntmps7
  go_wp2_with fail
  rw[←hW]at C HC HH HZ⊢
  clear hW
  refine(tk.size_toks l a cap 1048576 _ (by omega) HN.out HC.out HM.out).mono ?_
  rintro e w1 ⟨he,b1⟩
  rw[H1.out]at he
  subst he
  have B1:=hid b1
  have C1:=hid ((HC.keep b1 (Nat.le_refl _)).up b1.size)
  clear b1
  go_wp2_with fail
  have V:=hid ((HC.keep B1.drew (Nat.le_refl _)).up B1.drew.size)
  have YB:=hid (HZ.out _ B1.drew)
  have ac:=hid (toks3 cap #[.int .i64 0,.int .i64 0] 28 HLB.out B1.drew V.out)
  have N:=hid (show Below W0.heap.size W0 (w1.alloc (.cells #[.int .i64 0,.int .i64 0] 28)).drew from(B1.alloc B1.size _).drew)
  have Q:=hid (B1.drew.alloc B1.drew.size (.cells #[.int .i64 0,.int .i64 0] 28))
  go_cut [6,7,8] (fun v6 v7 v8 wx=>∃a0 c0 G,v6= .slice a0 q.length c0∧v7= .int .i64 (n:Int)∧v8= .pointer (some ⟨G,0,none⟩)∧Bk G #[.int .i64 k,.int .i64 f] 28 wx∧Lies wx.heap.size wx a0 q∧Below W0.heap.size W0 wx)
  case first=>
   go_region_held3 (fun W=>W.cell? ⟨w.heap.size,0,none⟩=some (.int .i64 p.l)∧W.cell? ⟨w.heap.size,1,none⟩=some (.bool p.d)∧W.cell? ⟨w.heap.size,2,none⟩=some (.bool p.i)∧W.cell? ⟨w.heap.size,3,none⟩=some (.bool p.g)∧W.cell? ⟨w.heap.size,4,none⟩=some (.bool p.s))
    (first|(with_reducible exact YB.out)|(with_reducible exact HZ.out _ Q.out)|(with_reducible exact HZ.out _ N.out)|(with_reducible exact HZ.out _ B3.out)|(with_reducible exact HZ.out _ B4.out)|(with_reducible exact HZ.out _ B5.out)|(with_reducible exact HZ.out _ aj.out)|(with_reducible exact HZ.out _ ap.out)|(with_reducible exact HZ.out _ an.out)|(with_reducible exact HZ.out _ A.out))
    (first|(go_at_call 25;refine(ac.out _ ?_).mono ?_;(with_reducible first|exact Or.inl rfl|exact Or.inr rfl);rintro e w3 ⟨g3,rfl,b3,k3,x3⟩;have B3:=hid b3;have K3:=hid k3;have an:=hid (b3.alloc b3.size (.cells #[.int .i64 0,.int .i64 0] 28));(first|(have XB:=hid (show Bk w1.heap.size #[.int .i64 0,.int .i64 0] 28 w3 from x3 (by with_reducible exact drew_alloc _ _)))|skip);clear b3 k3 x3)|(go_at_call 26;refine(pos3 p K3.out B3.out (c:= #[.int .i64 0,.int .i64 0]) (ty:=28) ?_).mono ?_;(with_reducible first|exact Or.inl rfl|exact Or.inr rfl);rintro e w4 ⟨rfl,b4,k4,x4,y4⟩;have B4:=hid b4;have K4:=hid k4;have aj:=hid (b4.alloc b4.size (.cells #[.int .i64 0,.int .i64 0] 28));(first|(have F:=hid (y4 (by with_reducible rfl) _ _ _ XB.out);have HG:=hid (show W0.heap.size≤w1.heap.size from B1.out.size))|(have F:=hid (x4 (by with_reducible rfl));have HG:=hid B3.out.size)|skip);clear b4 k4 x4 y4)|(go_at_call 24;refine(spec3 HRS K4.out B4.out (c:= #[.int .i64 0,.int .i64 0]) (ty:=28) ?_).mono ?_;(with_reducible first|exact Or.inl rfl|exact Or.inr rfl);rintro e w5 ⟨a0,c0,rfl,D,b5,x5,y5⟩;have B5:=hid b5;have ap:=hid (b5.alloc b5.size (.cells #[.int .i64 0,.int .i64 0] 28));(first|(have X5:=hid (y5 (by with_reducible rfl) _ _ _ F.out);obtain⟨x0,x1⟩:=X5.out.c2;have g0:=X5.out.f 0;have g1:=X5.out.f 1;have A:=hid (pr.below_put2 B5.out HG.out (.int .i64 k) (.int .i64 f));have J:=hid (above2 D F.out.lt (.int .i64 k) (.int .i64 f)))|(have X5:=hid (x5 (by with_reducible rfl));obtain⟨x0,x1⟩:=X5.out.c2;have g0:=X5.out.f 0;have g1:=X5.out.f 1;have A:=hid (pr.below_put2 B5.out B4.out.size (.int .i64 k) (.int .i64 f));have J:=hid (above2 (g:=w4.heap.size) D (by simp) (.int .i64 k) (.int .i64 f)))|(have A:=hid (B5.out.alloc B5.out.size (.cells #[.int .i64 k,.int .i64 f] 28));have J:=hid (D.lies.on ((Below.refl w5.heap.size w5).alloc (Nat.le_refl _) (.cells #[.int .i64 k,.int .i64 f] 28)) (Nat.le_refl _))));clear b5 D x5 y5))
   all_goals (go_wp2_with fail;go_meet)
   all_goals exact⟨_,_,_,rfl,rfl,rfl,(by first|exact X5.put2 _ _|exact Bk.new _ _ _),J.out,A.out⟩
  case rest=>
   obtain⟨a0,c0,G,rfl,rfl,rfl,xb,l0,b0⟩:=hcut
   have X1:=hid xb
   have L1:=hid l0
   have B2:=hid b0
   have C2:=hid ((HC.keep b0 (Nat.le_refl _)).up b0.size)
   clear xb l0 b0 B1 C1 V YB ac N Q
   go_wp2_with fail
   refine(HTT.out _ C2.out).mono ?_
   rintro e w6 ⟨rfl,b6,k6⟩
   have a3:=hid b6
   have B6:=hid (B2.trans (b6.mono B2.size))
   have K6:=hid k6
   have bl:=hid (HH.below B6.out)
   obtain⟨q0,q1,q2,q3,q4⟩:=HZ.out _ B6.out
   clear b6 k6
   go_wp2_with fail
   refine(ps.to_pos p.l p.d p.i p.g p.s _).mono ?_
   rintro e w7 ⟨rfl,b7⟩
   have a5:=hid b7
   have K7:=hid ((K6.lies.keep b7 (Nat.le_refl _)).up b7.size)
   have bc:=hid (bl.below b7)
   clear b7 q0 q1 q2 q3 q4
   go_wp2_with fail
   refine(HRI.out _ l.length w7 K7.out bc.out).mono ?_
   rintro e w8 ⟨v1,z1,r1,rfl,aS,aV,b8⟩
   obtain⟨a1,c1,rfl,aD⟩:=GO.of aV aS
   obtain⟨W8,Z⟩:∃W8,W8=w8.alloc (.cells #[.int .i64 k,.int .i64 f] 28):=⟨_,rfl⟩
   have X8:=hid (show Bk w8.heap.size #[.int .i64 k,.int .i64 f] 28 W8 by rw[Z];exact Bk.new _ _ _)
   have aZ:=hid (show Below w7.heap.size w7 W8 by rw[Z];exact b8.alloc b8.size _)
   have ae:=hid (a5.trans (aZ.mono a5.size))
   have O8:=hid (show GO w7.heap.size a1 c1 q W8 by rw[Z];exact aD.keep ((Below.refl _ _).alloc (Nat.le_refl _) _))
   have be:=hid Z
   have L8:=hid ((L1.on a3.out (Nat.le_refl _)).on ae.out (Nat.le_refl _))
   have au:=hid ((X1.keep a3.out).keep ae.out)
   have bq:=hid b8.size
   clear b8 aV aD aS Z
   go_wp2_with fail
   rw[←be.out]
   refine(eq_nodes q q _ _ _ _ _ hqb hqb HQK.out HQK.out O8.lies L8.out).mono ?_
   rintro e w9 ⟨he,b9⟩
   rw[decide_eq_true rfl]at he
   subst he
   have aI:=hid b9
   have O9:=hid (O8.keep b9)
   have aN:=hid (X8.keep b9)
   have aW:=hid (au.keep b9)
   obtain⟨x0,x1⟩:=aW.c2
   obtain⟨y0,y1⟩:=aN.c2
   clear b9
   go_wp2_with fail
   refine(markt.eq_fault k f _).mono ?_
   rintro e b2 ⟨rfl,aq⟩
   have az:=hid aq
   have bb:=hid (O9.keep aq)
   clear aq x0 x1 y0 y1
   go_wp2_with fail
   have ad:=hid (st (st (st a3.out ae.out) aI.out) az.out)
   have aA:=hid (st (st ae.out aI.out) az.out)
   have aL:=hid ((C2.keep ad.out (Nat.le_refl _)).up ad.size)
   refine(HTT.out _ aL.out).mono ?_
   rintro e bx ⟨rfl,K,aO⟩
   have a9:=hid (st aA.out K)
   have aK:=hid (st ad.out K)
   have aE:=hid (bb.keep K)
   have ag:=hid (K6.keep a9.out K6.lt)
   have KL:=hid aO.lies
   have aB:=hid ((aN.keep az.out).keep K)
   clear K aO
   go_wp2_with fail
   refine(tk.eq_toks l l _ _ _ _ _ hlb hlb ag.lies KL.out).mono ?_
   rintro e bu ⟨he,aa⟩
   rw[decide_eq_true rfl]at he
   subst he
   have a4:=hid (st aK.out aa)
   have a8:=hid (aE.keep aa)
   have aJ:=hid (ag.keep aa ag.lt)
   have ao:=hid (aB.keep aa)
   obtain⟨M,hM⟩:∃M:Nat,M=1+3*l.length:=⟨_,rfl⟩
   have zM:¬(M:Int)<0:=by omega
   have bo:=hid hM
   have hgS:=hid (show wc.heap.size<w7.heap.size from Nat.lt_of_lt_of_le K6.lt a5.size)
   clear aa hM
   go_wp2_with fail
   refine(markt.mark_toks wc.heap.size l.length l.length 1 l bu aJ.out (Nat.le_refl _) HLB.out (by omega) (by omega)).mono ?_
   rintro e bj ⟨he,-,gr⟩
   rw[←bo.out]at he
   subst he
   have ai:=hid (a4.grown gr a4.size (fun k hk=>by injection hk with hk;omega))
   have ay:=hid (abv a8.out (Above.grown gr hgS.out) gr.size)
   have aG:=hid (show Bk w8.heap.size #[.int .i64 k,.int .i64 f] 28 bj from(gr.block _ ao.lt (by have h1:=hgS.out;have h2:=bq.out;intro e;injection e with e;omega)).trans ao.out)
   have aU:=hid (L1.on ai.out (Nat.le_refl _))
   clear gr
   go_wp2_with fail
   refine(eq_nodes q q _ _ _ _ _ hqb hqb HQK.out HQK.out ay.lies aU.out).mono ?_
   rintro e bz ⟨he,af⟩
   rw[decide_eq_true rfl]at he
   subst he
   have ax:=hid (st ai.out af)
   have aR:=hid (ay.keep af)
   obtain⟨x0,x1⟩:=(X1.keep ax.out).c2
   obtain⟨y0,y1⟩:=(aG.keep af).c2
   clear af
   go_wp2_with fail
   refine(markt.eq_fault k f _).mono ?_
   rintro e bv ⟨rfl,am⟩
   have a7:=hid (st ax.out am)
   have aT:=hid (aR.keep am)
   clear am x0 x1 y0 y1
   go_wp2_with fail
   refine(mark_go aT.out HQL.out bh.out).mono ?_
   rintro e bn ⟨he,aH,aF,-⟩
   rw[←HME.out]at he
   subst he
   have aQ:=hid (a7.trans (aH.mono (Nat.le_of_lt hgS.out)))
   have ak:=hid aF
   clear aH aF
   go_wp2_with fail
   rw[←HLN.out]
   refine(held_nodes a1 c1 (lens q) bn aC.out aM.out (by rw[HLN.out];exact hqb) ak.out).mono ?_
   rintro e h ⟨he,al⟩
   rw[←HME.out]at he
   subst he
   rw[HLN.out]
   have U:=hid (st aQ.out al)
   have aX:=hid (ak.on al (Nat.le_refl _))
   have bk:=hid ((C2.keep U.out (Nat.le_refl _)).up U.size)
   have ar:=hid (st B2.out U.out)
   have br:=hid (HH.below ar.out)
   have y:=hid (fun W (hb:Below h.heap.size h W)=>HZ.out W (st ar.out hb))
   have bg:=hid (X1.keep U.out)
   have bs:=hid (L1.on U.out (Nat.le_refl _))
   have o:=hid (Below.refl h.heap.size h)
   clear al ad aA aL a9 aK aE ag KL aB a4 a8 aJ ao ai ay aG aU ax aR a7 aT aQ ak
   go_wp2_with fail
   have V:=hid ((bk.keep o.drew (Nat.le_refl _)).up o.drew.size)
   have YB:=hid (y.out _ o.drew)
   have ac:=hid (toks3 cap #[.int .i64 0,.int .i64 0] 28 HLB.out o.drew V.out)
   have N:=hid (show Below h.heap.size h (h.alloc (.cells #[.int .i64 0,.int .i64 0] 28)).drew from(o.alloc o.size _).drew)
   have Q:=hid (o.drew.alloc o.drew.size (.cells #[.int .i64 0,.int .i64 0] 28))
   go_cut [16,17,18] (fun v6 v7 v8 wx=>∃a2 c2 G,v6= .slice a2 q.length c2∧v7= .int .i64 (n:Int)∧v8= .pointer (some ⟨G,0,none⟩)∧Bk G #[.int .i64 k,.int .i64 f] 28 wx∧Lies wx.heap.size wx a2 q∧Below h.heap.size h wx)
   case first=>
    go_region_held3 (fun W=>W.cell? ⟨w.heap.size,0,none⟩=some (.int .i64 p.l)∧W.cell? ⟨w.heap.size,1,none⟩=some (.bool p.d)∧W.cell? ⟨w.heap.size,2,none⟩=some (.bool p.i)∧W.cell? ⟨w.heap.size,3,none⟩=some (.bool p.g)∧W.cell? ⟨w.heap.size,4,none⟩=some (.bool p.s))
     (first|(with_reducible exact YB.out)|(with_reducible exact y.out _ Q.out)|(with_reducible exact y.out _ N.out)|(with_reducible exact y.out _ B3.out)|(with_reducible exact y.out _ B4.out)|(with_reducible exact y.out _ B5.out)|(with_reducible exact y.out _ aj.out)|(with_reducible exact y.out _ ap.out)|(with_reducible exact y.out _ an.out)|(with_reducible exact y.out _ A.out))
     (first|(go_at_call 25;refine(ac.out _ ?_).mono ?_;(with_reducible first|exact Or.inl rfl|exact Or.inr rfl);rintro e w3 ⟨g3,rfl,b3,k3,x3⟩;have B3:=hid b3;have K3:=hid k3;have an:=hid (b3.alloc b3.size (.cells #[.int .i64 0,.int .i64 0] 28));(first|(have XB:=hid (show Bk h.heap.size #[.int .i64 0,.int .i64 0] 28 w3 from x3 (by with_reducible exact drew_alloc _ _)))|skip);clear b3 k3 x3)|(go_at_call 26;refine(pos3 p K3.out B3.out (c:= #[.int .i64 0,.int .i64 0]) (ty:=28) ?_).mono ?_;(with_reducible first|exact Or.inl rfl|exact Or.inr rfl);rintro e w4 ⟨rfl,b4,k4,x4,y4⟩;have B4:=hid b4;have K4:=hid k4;have aj:=hid (b4.alloc b4.size (.cells #[.int .i64 0,.int .i64 0] 28));(first|(have F:=hid (y4 (by with_reducible rfl) _ _ _ XB.out);have HG:=hid (show h.heap.size≤h.heap.size from o.out.size))|(have F:=hid (x4 (by with_reducible rfl));have HG:=hid B3.out.size)|skip);clear b4 k4 x4 y4)|(go_at_call 18;refine(impl3 HRI K4.out B4.out br.out (c:= #[.int .i64 0,.int .i64 0]) (ty:=28) ?_).mono ?_;(with_reducible first|exact Or.inl rfl|exact Or.inr rfl);rintro e w5 ⟨a2,c2,rfl,D,b5,x5,y5⟩;have B5:=hid b5;have ap:=hid (b5.alloc b5.size (.cells #[.int .i64 0,.int .i64 0] 28));(first|(have X5:=hid (y5 (by with_reducible rfl) _ _ _ F.out);obtain⟨x0,x1⟩:=X5.out.c2;have g0:=X5.out.f 0;have g1:=X5.out.f 1;have A:=hid (pr.below_put2 B5.out HG.out (.int .i64 k) (.int .i64 f));have J:=hid (above2 D F.out.lt (.int .i64 k) (.int .i64 f)))|(have X5:=hid (x5 (by with_reducible rfl));obtain⟨x0,x1⟩:=X5.out.c2;have g0:=X5.out.f 0;have g1:=X5.out.f 1;have A:=hid (pr.below_put2 B5.out B4.out.size (.int .i64 k) (.int .i64 f));have J:=hid (above2 (g:=w4.heap.size) D (by simp) (.int .i64 k) (.int .i64 f)))|(have A:=hid (B5.out.alloc B5.out.size (.cells #[.int .i64 k,.int .i64 f] 28));have J:=hid (D.lies.on ((Below.refl w5.heap.size w5).alloc (Nat.le_refl _) (.cells #[.int .i64 k,.int .i64 f] 28)) (Nat.le_refl _))));clear b5 D x5 y5))
    all_goals (go_wp2_with fail;go_meet)
    all_goals exact⟨_,_,_,rfl,rfl,rfl,(by first|exact X5.put2 _ _|exact Bk.new _ _ _),J.out,A.out⟩
   case rest=>
    obtain⟨a2,c2,G2,rfl,rfl,rfl,xb,l0,b0⟩:=hcut
    have au:=hid xb
    have bf:=hid l0
    have a6:=hid b0
    have bm:=hid (aX.on b0 (Nat.le_refl _))
    clear xb l0 b0 V YB ac N Q o
    go_wp2_with fail
    refine(eq_nodes q q _ _ _ _ _ hqb hqb HQK.out HQK.out bf.out (bs.on a6.out (Nat.le_refl _))).mono ?_
    rintro e bw ⟨he,ah⟩
    rw[decide_eq_true rfl]at he
    subst he
    have aP:=hid (st a6.out ah)
    have bp:=hid (bm.on ah (Nat.le_refl _))
    obtain⟨x0,x1⟩:=(bg.keep aP.out).c2
    obtain⟨y0,y1⟩:=(au.keep ah).c2
    clear ah
    go_wp2_with fail
    refine(markt.eq_fault k f _).mono ?_
    rintro e aY ⟨rfl,aw⟩
    have bt:=hid (st aP.out aw)
    have bi:=hid (bp.on aw (Nat.le_refl _))
    clear aw x0 x1 y0 y1
    go_wp2_with fail
    rw[←HLN.out]
    refine(held_nodes a1 c1 (lens q) aY aC.out aM.out (by rw[HLN.out];exact hqb) bi.out).mono ?_
    rintro e wa ⟨he,ba⟩
    rw[←HME.out]at he
    subst he
    rw[HLN.out]
    have Ba:=hid (C.trans ((st ar.out (st bt.out ba)).mono C.size))
    clear ba
    go_wp2
    go_ret
    exact⟨rfl,Ba.out⟩
 ·have H1:=hid (show tk.sz l 1048576= -1 from sz_no h1)
  clear h1
  go_enter Tryz.func7,Tryz.ntmps7
  go_wp2_with fail
  rw[←hW]at C HC HH HZ⊢
  clear hW
  refine(tk.size_toks l a cap 1048576 _ (by omega) HN.out HC.out HM.out).mono ?_
  rintro e w1 ⟨he,b1⟩
  rw[H1.out]at he
  subst he
  have B1:=hid (C.trans (b1.mono C.size))
  clear b1
  go_wp2
  go_ret
  exact⟨rfl,B1.out⟩
theorem walk(l:List Tk)(a:Option Addr)(cap:Nat)(L:Int)(d i g s:Bool)(w:World)(hc:tk.Lies w.heap.size w a l)(hn:l.length≤maxLen)(hm:∀t∈l,t.s.size≤maxLen)(hh:Held w):
  Calls Tryz.prog 7 #[.slice a l.length cap,.agg #[.int .i64 L,.bool d,.bool i,.bool g,.bool s]] w fun e w'=>e= .returned (.bool true)∧Below w.heap.size w w':=walkP l a cap ⟨L,d,i,g,s⟩ w hc hn hm hh
end Go.Proofs.YtebjmdpkobhcbaaGreatDoor.lawParseExpr
