/-

-/
import Derived.Test.YtnoagleifffkcaaGreatDoorZoGDo
import Derived.Test.YtnoagleifffkcaaGreatDoorZoGSp
import Derived.Test.YtnoagleifffkcaaGreatDoorZoFits
import Derived.Test.YtnoagleifffkcaaGreatDoorZoGKd
import Derived.Deep.RegionLaw
import Derived.Deep.RegionHeld3
import Derived.Lib.QuietBelow
namespace Go.Proofs.YtnoagleifffkcaaGreatDoor.dm
open Lib (hid)
open Go.ChangeShapes Go.WideShapes Go.ChangeAt Go.RowKit
open ps (Ps posOk top)
open tk (Tk)
open nd (Nd Ints)
open rb (Ee Uu tkn sym ln lnF lsD brD kidD opD bodyD bodyA)
open rt (treeOk isExpr)
open et (kp kd)
open spell (Held)
set_option linter.unusedVariables false
set_option maxRecDepth 20000
structure En where
 L:List Tk
 l:List Nd
 aL:Option Addr
 cL:Nat
 aX:Option Addr
 cX:Nat
 bd:Nat
 mb:Nat
 W0:World
structure Ev(E:En):Prop where
 toks:tk.Lies E.W0.heap.size E.W0 E.aL E.L
 nds:nd.Lies E.W0.heap.size E.W0 E.aX E.l
 held:Held E.W0
 ll:E.L.length≤400
 xl:E.l.length≤400
 tree:treeOk E.l=true
 h32:∀j,pe.kd E.L j=32→pe.tx E.L j=spell.spell 32
 h1:∀j,pe.kd E.L j=1→pe.tx E.L j=spell.spell 1
structure Dr(E:En)(w:World):Prop where
 ev:Ev E
 bel:Below E.W0.heap.size E.W0 w
 box:w.heap[E.bd]? =some (.cells #[.slice E.aL E.L.length E.cL,.slice E.aX E.l.length E.cX,.map (some E.mb)] 63 (0,0))
 memo:Memo E.L E.l E.mb w
 bm:E.W0.heap.size≤E.mb
 mbd:E.mb<E.bd
def DOut(E:En)(X:Option Nat)(w:World)(e:Ending)(w':World):Prop:=e= .returned (.int .i64 (co X))∧In E.L X∧w.grownBy w' (some E.mb)∧Dr E w'
section
variable {E:En} {w w' w1 w2:World}
theorem lt_hp{g:Nat}{o:Obj}(h:w.heap[g]? =some o):g<w.heap.size:=by
 rcases Nat.lt_or_ge g w.heap.size with h'|h'
 ·exact h'
 ·rw[Array.getElem?_eq_none h']at h;cases h
theorem gb_refl(m:Nat)(w:World):w.grownBy w (some m):=World.grownBy.refl w _
theorem gb_trans{m:Nat}(h:w.grownBy w1 (some m))(k:w1.grownBy w2 (some m)):w.grownBy w2 (some m):=
 ⟨k.os.trans h.os,k.tape.trans h.tape,k.output.trans h.output,Nat.le_trans h.size k.size,fun j hj hne=>(k.block j (Nat.lt_of_lt_of_le hj h.size) hne).trans (h.block j hj hne)⟩
theorem gb_bel{m:Nat}(h:Below w.heap.size w w1):w.grownBy w1 (some m):=⟨h.os,h.tape,h.output,h.size,fun j hj _=>h.block j hj⟩
theorem gb_any(m:Nat)(w:World)(x:Obj):w.grownBy (w.alloc x) (some m):=gb_bel ((Below.refl _ _).alloc (Nat.le_refl _) x)
theorem Dr.over(h:Dr E w)(hb:Below w.heap.size w w'):Dr E w':=
 ⟨h.ev,h.bel.trans (hb.mono h.bel.size),(hb.block _ (lt_hp h.box)).trans h.box,h.memo.kept (hb.block _ h.memo.lt),h.bm,h.mbd⟩
theorem Dr.any(h:Dr E w)(x:Obj):Dr E (w.alloc x):=h.over ((Below.refl _ _).alloc (Nat.le_refl _) x)
theorem Dr.drew(h:Dr E w):Dr E w.drew:=h.over ((Below.refl _ _).drew)
theorem Dr.held(h:Dr E w):Held w:=h.ev.held.below h.bel
theorem Dr.c(h:Dr E w):w.cell? ⟨E.bd,0,none⟩=some (.slice E.aL E.L.length E.cL)∧w.cell? ⟨E.bd,1,none⟩=some (.slice E.aX E.l.length E.cX)∧w.cell? ⟨E.bd,2,none⟩=some (.map (some E.mb)):=
 ⟨by rw[cell_of_row _ _ 0 _ _ _ h.box];rfl,by rw[cell_of_row _ _ 1 _ _ _ h.box];rfl,by rw[cell_of_row _ _ 2 _ _ _ h.box];rfl⟩
theorem gb_box{m g:Nat}{x:Obj}(h:w.grownBy w' (some m))(hx:w.heap[g]? =some x)(hne:g≠m):w'.heap[g]? =some x:=by
 rw[h.block g (lt_hp hx) (fun e=>hne (by injection e))]
 exact hx
theorem tkn_lt{L:List Tk}{k:Int}{s:ByteArray}{a:Option Nat}:In L (tkn L k s a):=fun b hb=>by
 obtain⟨a',-,-,-,h,rfl⟩:=rb.tkn_some hb
 omega
theorem tok_at{L:List Tk}{A:Nat}(h:A<L.length):pe.kd L A=L[A].k∧pe.tx L A=L[A].s:=by
 unfold pe.kd pe.tx
 rw[List.getElem?_eq_getElem h]
 exact⟨rfl,rfl⟩
end
set_option maxHeartbeats 1600000 in
theorem d_token{E:En}(k:Int)(s:ByteArray)(a:Option Nat)(w:World)(hd:Dr E w)(ha:In E.L a):
  Calls Tryz.prog 166 #[.pointer (some ⟨E.bd,0,none⟩),.int .i64 k,.string s,.int .i64 (co a)] w (DOut E (tkn E.L k s a) w):=by
 have HD:=hid hd
 cases a with
 |none=>
  clear hd ha
  show Calls _ _ #[_,_,_,.int .i64 (-1)] w _
  go_enter Tryz.func166,Tryz.ntmps166
  go_wp2
  go_ret
  exact⟨rfl,fun b hb=>by(cases hb),gb_refl _ _,HD.out⟩
 |some A=>
  have hA:=ha A rfl
  have hll:=hd.ev.ll
  obtain⟨b0,-,-⟩:=hd.c
  obtain⟨n,hln⟩:∃n,n=E.L.length:=⟨_,rfl⟩
  have HLN:=hid hln
  rw[←hln]at b0 hA hll
  have e1:((A:Int)== -1)=false:=by rw[beq_eq_false_iff_ne];omega
  show Calls _ _ #[_,_,_,.int .i64 (A:Int)] w _
  clear ha
  by_cases hlt:A<n
  ·have hAl:A<E.L.length:=by omega
   obtain⟨bl,ol,eL,hbl,hcell⟩:=tk.lies_at hd.ev.toks hAl
   rw[eL]at b0
   obtain⟨c0,c1,c2⟩:=(hcell A hAl).keep hd.bel hbl
   obtain⟨q1,q2⟩:=tok_at hAl
   have HT:=hid (show∀X,X=tkn E.L k s (some A)→X=if E.L[A].k=k∧E.L[A].s=s then some (A+1)else none from fun X hX=>by
    rw[hX]
    unfold rb.tkn
    simp only[Option.bind_some]
    rw[q1,q2]
    by_cases h:E.L[A].k=k∧E.L[A].s=s
    ·rw[if_pos h,if_pos ⟨h.1,h.2,hAl⟩]
    ·rw[if_neg h,if_neg (fun h'=>h ⟨h'.1,h'.2.1⟩)])
   obtain⟨t,ht⟩:∃t,t=E.L[A]:=⟨_,rfl⟩
   rw[←ht]at c0 c1 c2 HT
   have e:(A:Int)<(n:Int):=by omega
   have j:(0:Int)≤(A:Int):=by omega
   have e2:decide ((n:Int)≤(A:Int))=false:=by rw[decide_eq_false_iff_not];omega
   have e3:¬(n:Int)≤(A:Int):=by omega
   have HAL:=hid hAl
   clear hln hcell ht q1 q2 eL hbl hd hAl
   by_cases hk:t.k=k
   ·by_cases hs:t.s=s
    ·have k1:(t.k !=k)=false:=by simpa using hk
     obtain⟨s1,s2⟩:=tk.str_eq hs
     have HX:=hid (show tkn E.L k s (some A)=some (A+1) by rw[HT.out _ rfl,if_pos ⟨hk,hs⟩])
     clear hk hs
     go_enter Tryz.func166,Tryz.ntmps166
     go_wp2
     go_ret
     exact⟨by rw[HX.out];rfl,tkn_lt,gb_any _ _ _,HD.any _⟩
    ·have k1:(t.k !=k)=false:=by simpa using hk
     obtain⟨s1,s2⟩:=tk.str_ne hs
     have HX:=hid (show tkn E.L k s (some A)=none by rw[HT.out _ rfl,if_neg (fun h=>hs h.2)])
     clear hk hs
     go_enter Tryz.func166,Tryz.ntmps166
     go_wp2
     go_ret
     exact⟨by rw[HX.out];rfl,tkn_lt,gb_any _ _ _,HD.any _⟩
   ·have k1:(t.k !=k)=true:=by simpa using hk
    have HX:=hid (show tkn E.L k s (some A)=none by rw[HT.out _ rfl,if_neg (fun h=>hk h.1)])
    clear hk
    go_enter Tryz.func166,Tryz.ntmps166
    go_wp2
    go_ret
    exact⟨by rw[HX.out];rfl,tkn_lt,gb_any _ _ _,HD.any _⟩
  ·have HX:=hid (show tkn E.L k s (some A)=none by
    unfold rb.tkn
    simp only[Option.bind_some]
    rw[if_neg (fun h=>by have:=h.2.2;omega)])
   have e3:(n:Int)≤(A:Int):=by omega
   clear hln hd hlt
   go_enter Tryz.func166,Tryz.ntmps166
   go_wp2
   go_ret
   exact⟨by rw[HX.out];rfl,tkn_lt,gb_refl _ _,HD.out⟩
theorem d_symbol{E:En}(k:Int)(a:Option Nat)(w:World)(hd:Dr E w)(ha:In E.L a):
  Calls Tryz.prog 170 #[.pointer (some ⟨E.bd,0,none⟩),.int .i64 k,.int .i64 (co a)] w (DOut E (sym E.L k a) w):=by
 have HD:=hid hd
 have HA:=hid ha
 clear hd ha
 go_enter Tryz.func170,Tryz.ntmps170
 go_wp2_with fail
 refine(spell.impl_spell k _ HD.held).mono ?_
 rintro e w1 ⟨rfl,rfl⟩
 go_wp2_with fail
 refine(d_token k (spell.spell k) a _ HD.out HA.out).mono ?_
 rintro e w2 ⟨rfl,h1,h2,h3⟩
 have H1:=hid h1
 have H2:=hid h2
 have H3:=hid h3
 clear h1 h2 h3
 go_wp2
 go_ret
 exact⟨rfl,H1.out,H2.out,H3.out⟩
def RelLn(E:En)(w:World)(A0:Nat)(v:Value)(wr:World):Prop:=
 ∃A g:Nat,v= .int .i64 (A:Int)∧A≤E.L.length∧E.L.length≤g+A∧lnF E.L g A=lnF E.L E.L.length A0∧w.grownBy wr (some E.mb)∧Dr E wr
theorem kd_out{L:List Tk}{A:Nat}(h:L.length≤A):pe.kd L A=0:=by
 unfold pe.kd
 rw[List.getElem?_eq_none h]
 rfl
theorem sym1_yes{E:En}(hd:Ev E){A:Nat}(h:pe.kd E.L A=1):sym E.L 1 (some A)=some (A+1)∧A<E.L.length:=by
 have hlt:A<E.L.length:=by
  rcases Nat.lt_or_ge A E.L.length with h'|h'
  ·exact h'
  ·rw[kd_out h']at h;cases h
 refine⟨?_,hlt⟩
 unfold rb.sym rb.tkn
 simp only[Option.bind_some]
 rw[if_pos ⟨h,hd.h1 A h,hlt⟩]
theorem sym1_no{L:List Tk}{A:Nat}(h:¬pe.kd L A=1):sym L 1 (some A)=none:=by
 unfold rb.sym rb.tkn
 simp only[Option.bind_some]
 rw[if_neg (fun h'=>h h'.1)]
set_option maxHeartbeats 1600000 in
theorem d_lines{E:En}(a:Option Nat)(w:World)(hd:Dr E w)(ha:In E.L a):
  Calls Tryz.prog 212 #[.pointer (some ⟨E.bd,0,none⟩),.int .i64 (co a)] w (DOut E (ln E.L a) w):=by
 have HD:=hid hd
 cases a with
 |none=>
  clear hd ha
  show Calls _ _ #[_,.int .i64 (-1)] w _
  go_enter Tryz.func212,Tryz.ntmps212
  go_wp2
  go_loopw [1] (fun v wr=>v= .int .i64 (-1)∧wr=w) (fun _ _=>0)
  case atStart=>exact⟨rfl,rfl⟩
  case round=>
   obtain⟨rfl,rfl⟩:=hrel
   go_wp2_with fail
   refine(d_symbol 1 none _ HD.out (fun b hb=>by(cases hb))).mono ?_
   rintro e w2 ⟨rfl,h1,h2,h3⟩
   have H2:=hid h2
   have H3:=hid h3
   clear h1 h2 h3
   have e0:sym E.L 1 none=none:=rfl
   rw[e0]
   have e1:co none= -1:=rfl
   rw[e1]
   go_wp2
   go_ret
   exact⟨rfl,fun b hb=>by(cases hb),H2.out,H3.out⟩
 |some A0=>
  have hA:=ha A0 rfl
  have hll:=hd.ev.ll
  have HEV:=hid hd.ev
  show Calls _ _ #[_,.int .i64 (A0:Int)] w _
  clear hd ha
  go_enter Tryz.func212,Tryz.ntmps212
  go_wp2
  go_loopw [1] (fun v wr=>RelLn E w A0 v wr) (fun v _=>500-(intOf v).toNat)
  case atStart=>exact⟨A0,E.L.length,rfl,hA,by omega,rfl,gb_refl _ _,HD.out⟩
  case round=>
   obtain⟨A,g,rfl,hAl,hg,hln,hgr,hdr⟩:=hrel
   have HLN:=hid hln
   have HGR:=hid hgr
   have HDR:=hid hdr
   have HINA:=hid (show In E.L (some A)from fun b hb=>by(injection hb with hb;omega))
   have HG:=hid hg
   clear hln hgr hdr hg
   by_cases h1:pe.kd E.L A=1
   ·obtain⟨y1,y2⟩:=sym1_yes HEV.out h1
    have HY:=hid y1
    obtain⟨g',rfl⟩:∃g',g=g'+1:=⟨g-1,by have:=HG.out;omega⟩
    have HS:=hid (show lnF E.L (g'+1) A=lnF E.L g' (A+1)from if_pos h1)
    have hAb:(A:Int)≤400:=by omega
    clear h1 y1
    go_wp2_with fail
    refine(d_symbol 1 (some A) _ HDR.out HINA.out).mono ?_
    rintro e w2 ⟨rfl,h1,h2,h3⟩
    have H2:=hid (gb_trans HGR.out h2)
    have H3:=hid h3
    clear h1 h2 h3
    rw[HY.out]
    have e1:co (some (A+1))=(A:Int)+1:=rfl
    rw[e1]
    have e2:((A:Int)+1 != -1)=true:=by simp;omega
    go_wp2
    go_roundw
    case rel=>exact⟨A+1,g',by go_num,y2,by have:=HG.out;omega,by rw[←HS.out];exact HLN.out,H2.out,H3.out⟩
    case measure=>simp[intOf];omega
   ·have HY:=hid (sym1_no h1)
    have HS:=hid (show lnF E.L g A=A by
     cases g with
     |zero=>rfl
     |succ g=>exact if_neg h1)
    clear h1
    go_wp2_with fail
    refine(d_symbol 1 (some A) _ HDR.out HINA.out).mono ?_
    rintro e w2 ⟨rfl,h1,h2,h3⟩
    have H2:=hid (gb_trans HGR.out h2)
    have H3:=hid h3
    clear h1 h2 h3
    rw[HY.out]
    have e1:co none= -1:=rfl
    rw[e1]
    have HE:=hid (show ln E.L (some A0)=some A by show some (lnF E.L E.L.length A0)=some A;rw[←HLN.out,HS.out])
    go_wp2
    go_ret
    exact⟨by rw[HE.out];rfl,by rw[HE.out];exact HINA.out,H2.out,H3.out⟩
end Go.Proofs.YtnoagleifffkcaaGreatDoor.dm

namespace Go.Proofs.YtnoagleifffkcaaGreatDoor.dm
open Lib (hid)
open Go.ChangeShapes Go.WideShapes Go.ChangeAt Go.RowKit
open ps (Ps posOk top kidI)
open tk (Tk)
open nd (Nd Ints)
open rb (Ee Uu tkn sym ln lnF lsD brD kidD opD bodyD bodyA)
open rt (treeOk isExpr)
open et (kp kd)
open spell (Held)
set_option linter.unusedVariables false
set_option maxRecDepth 20000
def EC(E:En)(i:Nat):Prop:=∀(p:Ps) (a:Option Nat) (w:World),Dr E w→In E.L a→posOk p.l p.d=true→
 Calls Tryz.prog 33 #[.pointer (some ⟨E.bd,0,none⟩),.int .i64 (i:Int),.int .i64 (co a),.agg #[.int .i64 p.l,.bool p.d,.bool p.i,.bool p.g,.bool p.s]] w (DOut E (a.bind fun a=>Ee E.L E.l i a p) w)
def UC(E:En)(i:Nat):Prop:=∀(n:Nd) (ak:Option Addr) (ck:Nat) (p:Ps) (a:Option Nat) (w:World),E.l.getD i default=n→Ints E.W0.heap.size E.W0 ak n.kids→Dr E w→In E.L a→posOk p.l p.d=true→
 Calls Tryz.prog 108 #[.pointer (some ⟨E.bd,0,none⟩),.agg #[.int .i64 n.k,.int .i64 n.op,.string n.s,.string n.t,.slice ak n.kids.length ck],.int .i64 (co a),.agg #[.int .i64 p.l,.bool p.d,.bool p.i,.bool p.g,.bool p.s]] w (DOut E (a.bind fun a=>Uu E.L E.l i a p) w)
def NBx(w:World)(g:Nat)(n:Nd)(ak:Option Addr)(ck:Nat):Prop:=w.heap[g]? =some (.cells #[.int .i64 n.k,.int .i64 n.op,.string n.s,.string n.t,.slice ak n.kids.length ck] 57 (0,0))
def PBx(w:World)(g:Nat)(p:Ps):Prop:=w.heap[g]? =some (.cells #[.int .i64 p.l,.bool p.d,.bool p.i,.bool p.g,.bool p.s] 26 (0,0))
section
variable {w w':World} {g m:Nat} {n:Nd} {ak:Option Addr} {ck:Nat} {p:Ps}
theorem NBx.c(h:NBx w g n ak ck):w.cell? ⟨g,0,none⟩=some (.int .i64 n.k)∧w.cell? ⟨g,1,none⟩=some (.int .i64 n.op)∧w.cell? ⟨g,2,none⟩=some (.string n.s)∧w.cell? ⟨g,3,none⟩=some (.string n.t)∧w.cell? ⟨g,4,none⟩=some (.slice ak n.kids.length ck):=
 ⟨by rw[cell_of_row _ _ 0 _ _ _ h];rfl,by rw[cell_of_row _ _ 1 _ _ _ h];rfl,by rw[cell_of_row _ _ 2 _ _ _ h];rfl,by rw[cell_of_row _ _ 3 _ _ _ h];rfl,by rw[cell_of_row _ _ 4 _ _ _ h];rfl⟩
theorem PBx.c(h:PBx w g p):w.cell? ⟨g,0,none⟩=some (.int .i64 p.l)∧w.cell? ⟨g,1,none⟩=some (.bool p.d)∧w.cell? ⟨g,2,none⟩=some (.bool p.i)∧w.cell? ⟨g,3,none⟩=some (.bool p.g)∧w.cell? ⟨g,4,none⟩=some (.bool p.s):=
 ⟨by rw[cell_of_row _ _ 0 _ _ _ h];rfl,by rw[cell_of_row _ _ 1 _ _ _ h];rfl,by rw[cell_of_row _ _ 2 _ _ _ h];rfl,by rw[cell_of_row _ _ 3 _ _ _ h];rfl,by rw[cell_of_row _ _ 4 _ _ _ h];rfl⟩
theorem NBx.on(h:NBx w g n ak ck)(hb:Below w.heap.size w w'):NBx w' g n ak ck:=(hb.block _ (lt_hp h)).trans h
theorem PBx.on(h:PBx w g p)(hb:Below w.heap.size w w'):PBx w' g p:=(hb.block _ (lt_hp h)).trans h
theorem NBx.go(h:NBx w g n ak ck)(hb:w.grownBy w' (some m))(hne:g≠m):NBx w' g n ak ck:=gb_box hb h hne
theorem PBx.go(h:PBx w g p)(hb:w.grownBy w' (some m))(hne:g≠m):PBx w' g p:=gb_box hb h hne
theorem undrew{B:Nat}{W w1:World}(h:Below B W.drew w1):Below B W w1:=⟨h.os,h.tape,h.output,h.size,h.block⟩
theorem bc{g':Nat}(h:NBx w g n ak ck)(h':PBx w g' p):w.cell? ⟨g,0,none⟩=some (.int .i64 n.k)∧w.cell? ⟨g,1,none⟩=some (.int .i64 n.op)∧w.cell? ⟨g,2,none⟩=some (.string n.s)∧w.cell? ⟨g,3,none⟩=some (.string n.t)∧w.cell? ⟨g,4,none⟩=some (.slice ak n.kids.length ck)∧w.cell? ⟨g',0,none⟩=some (.int .i64 p.l)∧w.cell? ⟨g',1,none⟩=some (.bool p.d)∧w.cell? ⟨g',2,none⟩=some (.bool p.i)∧w.cell? ⟨g',3,none⟩=some (.bool p.g)∧w.cell? ⟨g',4,none⟩=some (.bool p.s):=
 ⟨h.c.1,h.c.2.1,h.c.2.2.1,h.c.2.2.2.1,h.c.2.2.2.2,h'.c.1,h'.c.2.1,h'.c.2.2.1,h'.c.2.2.2.1,h'.c.2.2.2.2⟩
theorem bq{g':Nat}{Q:Prop}(h:NBx w g n ak ck)(h':PBx w g' p)(q:Q):w.cell? ⟨g,0,none⟩=some (.int .i64 n.k)∧w.cell? ⟨g,1,none⟩=some (.int .i64 n.op)∧w.cell? ⟨g,2,none⟩=some (.string n.s)∧w.cell? ⟨g,3,none⟩=some (.string n.t)∧w.cell? ⟨g,4,none⟩=some (.slice ak n.kids.length ck)∧w.cell? ⟨g',0,none⟩=some (.int .i64 p.l)∧w.cell? ⟨g',1,none⟩=some (.bool p.d)∧w.cell? ⟨g',2,none⟩=some (.bool p.i)∧w.cell? ⟨g',3,none⟩=some (.bool p.g)∧w.cell? ⟨g',4,none⟩=some (.bool p.s)∧Q:=
 ⟨h.c.1,h.c.2.1,h.c.2.2.1,h.c.2.2.2.1,h.c.2.2.2.2,h'.c.1,h'.c.2.1,h'.c.2.2.1,h'.c.2.2.2.1,h'.c.2.2.2.2,q⟩
theorem two_boxes(w:World)(x y:Obj):((w.alloc x).alloc y).heap[w.heap.size]? =some x∧((w.alloc x).alloc y).heap[w.heap.size+1]? =some y:=by
 have hs:(w.alloc x).heap.size=w.heap.size+1:=by simp
 refine⟨?_,by rw[←hs];exact heap_alloc_new _ _⟩
 rw[Below.heap_alloc _ _ _ (by omega)]
 exact heap_alloc_new w _
end
theorem kid_at{E:En}(hev:Ev E){n:Nd}{ak:Option Addr}{K:Nat}(hK:K<n.kids.length)(hk:Ints E.W0.heap.size E.W0 ak n.kids){i:Nat}(hG:et.Good E.l i n):∃b o,ak=some ⟨b,o,none⟩∧b<E.W0.heap.size∧E.W0.cell? ⟨b,o+K,none⟩=some (.int .i64 (kd n K:Int)):=by
 obtain⟨b,o,e,hb,hc⟩:=nd.ints_at hk hK
 refine⟨b,o,e,hb, ?_⟩
 rw[hc K hK]
 have:=(hG.kids K hK).2.1
 rw[List.getD_eq_getElem?_getD,List.getElem?_eq_getElem hK]at this
 exact congrArg (fun x=>some (Value.int .i64 x)) this
theorem In.bind{L:List Tk}{a:Option Nat}{f:Nat→Option Nat}(h:∀x,In L (f x)):In L (a.bind f):=by
 cases a with
 |none=>exact fun b hb=>by(cases hb)
 |some x=>exact h x
set_option maxHeartbeats 3200000 in
theorem d_kid{E:En}(n:Nd)(ak:Option Addr)(ck K:Nat)(Ki:Int)(hKi:Ki=(K:Int))(i:Nat)(p:Ps)(a:Option Nat)(w:World)(hK:K<n.kids.length)(hG:et.Good E.l i n)(hk:Ints E.W0.heap.size E.W0 ak n.kids)(hE:EC E (kd n K))(hd:Dr E w)(ha:In E.L a)(hp:posOk p.l p.d=true):
  Calls Tryz.prog 169 #[.pointer (some ⟨E.bd,0,none⟩),.agg #[.int .i64 n.k,.int .i64 n.op,.string n.s,.string n.t,.slice ak n.kids.length ck],.int .i64 Ki,.int .i64 (co a),.agg #[.int .i64 p.l,.bool p.d,.bool p.i,.bool p.g,.bool p.s]] w (DOut E (kidD (Ee E.L E.l) n K p a) w):=by
 subst hKi
 have HE:=hid hE
 have HA:=hid ha
 have HP:=hid (et.kp_ok hG hp hK).1
 have hnb:n.kids.length≤1048576:=by have:=hG.most;omega
 obtain⟨bk,ok,rfl,hbk,hcell⟩:=kid_at hd.ev hK hk hG
 obtain⟨W,hW⟩:∃W,W=(w.alloc (.cells #[.int .i64 n.k,.int .i64 n.op,.string n.s,.string n.t,.slice (some ⟨bk,ok,none⟩) n.kids.length ck] 57)).alloc (.cells #[.int .i64 p.l,.bool p.d,.bool p.i,.bool p.g,.bool p.s] 26):=⟨_,rfl⟩
 have hbel:Below w.heap.size w W:=by rw[hW];exact((Below.refl _ _).alloc (Nat.le_refl _) _).alloc (by simp) _
 have HN:=hid (show NBx W w.heap.size n (some ⟨bk,ok,none⟩) ck by rw[hW];exact(two_boxes w _ _).1)
 have HB:=hid (show PBx W (w.heap.size+1) p by rw[hW];exact(two_boxes w _ _).2)
 have HD:=hid (hd.over hbel)
 have HQ:=hid (show∀w',Dr E w'→w'.cell? ⟨bk,ok+K,none⟩=some (.int .i64 (kd n K:Int))from fun w' h=>(h.bel.cell (p:=⟨bk,ok+K,none⟩) hbk).trans hcell)
 have HGB:=hid (gb_bel (m:=E.mb) hbel)
 have HNE:=hid (show w.heap.size≠E.mb from fun e=>by have:=hd.memo.lt;omega)
 have j:=hid (show w.heap.size+1≠E.mb from fun e=>by have:=hd.memo.lt;omega)
 have n0:=HN.c
 have p0:=HB.c
 have q0:=HQ.out _ HD.out
 have k1:(K:Int)<(n.kids.length:Int):=by omega
 have k0:(0:Int)≤(K:Int):=by omega
 have HX:=hid (fun q=>show∀X,X=(a.bind fun a=>Ee E.L E.l (kd n K) a q)→q=kp n K p→X=kidD (Ee E.L E.l) n K p a from fun X h1 h2=>by rw[h1,h2];rfl)
 clear hE ha hp hd hk hcell hbel hbk hK
 go_enter Tryz.func169,Tryz.ntmps169
 go_wp2
 rw[←hW]
 clear hW
 have ND:=hid (HN.on (Below.refl _ _).drew)
 have BD:=hid (HB.on (Below.refl _ _).drew)
 have DD:=hid HD.drew
 go_region_held3 (fun w'=>w'.cell? ⟨w.heap.size,0,none⟩=some (.int .i64 n.k)∧w'.cell? ⟨w.heap.size,1,none⟩=some (.int .i64 n.op)∧w'.cell? ⟨w.heap.size,2,none⟩=some (.string n.s)∧w'.cell? ⟨w.heap.size,3,none⟩=some (.string n.t)∧w'.cell? ⟨w.heap.size,4,none⟩=some (.slice (some ⟨bk,ok,none⟩) n.kids.length ck)∧w'.cell? ⟨w.heap.size+1,0,none⟩=some (.int .i64 p.l)∧w'.cell? ⟨w.heap.size+1,1,none⟩=some (.bool p.d)∧w'.cell? ⟨w.heap.size+1,2,none⟩=some (.bool p.i)∧w'.cell? ⟨w.heap.size+1,3,none⟩=some (.bool p.g)∧w'.cell? ⟨w.heap.size+1,4,none⟩=some (.bool p.s)∧w'.cell? ⟨bk,ok+K,none⟩=some (.int .i64 (kd n K:Int)))
  (first|assumption|with_reducible exact bq HN.out HB.out (HQ.out _ HD.out)|with_reducible exact bq ND.out BD.out (HQ.out _ DD.out)|with_reducible exact bq N5.out B5.out (HQ.out _ D5.out)|with_reducible exact bq N6.out B6.out (HQ.out _ H3.out))
  (first
   |(go_at_call 213;refine(ps.impl_kidPos n.k n.op n.s n.t (some ⟨bk,ok,none⟩) n.kids.length ck (K:Int) p.l p.d p.i p.g p.s _ hnb).mono ?_;rintro e w5 ⟨rfl,b5⟩;have D5:=hid (Dr.over DD.out b5);have N5:=hid (NBx.on ND.out b5);have B5:=hid (PBx.on BD.out b5);have G5:=hid (gb_trans HGB.out (gb_trans (gb_bel (Below.refl _ _).drew) (gb_bel b5)));clear b5)
   |(go_at_call 33;refine(HE.out (kp n K p) a _ D5.out HA.out HP.out).mono ?_;rintro e w6 ⟨rfl,h1,h2,h3⟩;have H1:=hid h1;have H2:=hid (gb_trans G5.out h2);have H3:=hid h3;have N6:=hid (NBx.go N5.out h2 HNE.out);have B6:=hid (PBx.go B5.out h2 j.out);clear h1 h2 h3))
 go_wp2
 go_ret
 exact⟨rfl,H1.out,H2.out,H3.out⟩
end Go.Proofs.YtnoagleifffkcaaGreatDoor.dm

namespace Go.Proofs.YtnoagleifffkcaaGreatDoor.dm
open Lib (hid)
open Go.ChangeShapes Go.WideShapes Go.ChangeAt Go.RowKit
open ps (Ps posOk top kidI)
open tk (Tk)
open nd (Nd Ints)
open rb (Ee Uu tkn sym ln lnF lsD brD kidD opD bodyD bodyA)
open rt (treeOk isExpr)
open et (kp kd)
open spell (Held)
set_option linter.unusedVariables false
set_option linter.unusedSimpArgs false
set_option maxRecDepth 20000
theorem node_at{E:En}(hev:Ev E){j:Nat}(hj:j<E.l.length):∃b o ak ck,E.aX=some ⟨b,o,none⟩∧b<E.W0.heap.size∧nd.Five E.W0 b (o+j*5) E.l[j] ak ck∧Ints E.W0.heap.size E.W0 ak E.l[j].kids:=by
 obtain⟨b,o,e,hb,hc⟩:=nd.lies_at hev.nds hj
 obtain⟨ak,ck,h5,hk⟩:=hc j hj
 exact⟨b,o,ak,ck,e,hb,h5,hk⟩
set_option maxHeartbeats 3200000 in
theorem d_target{E:En}(n:Nd)(ak:Option Addr)(ck:Nat)(i:Nat)(p:Ps)(a:Option Nat)(w:World)(hK:0<n.kids.length)(hi:i<E.l.length)(hG:et.Good E.l i n)(hk:Ints E.W0.heap.size E.W0 ak n.kids)(hU:UC E (kd n 0))(hd:Dr E w)(ha:In E.L a)(hp:posOk p.l p.d=true):
  Calls Tryz.prog 171 #[.pointer (some ⟨E.bd,0,none⟩),.agg #[.int .i64 n.k,.int .i64 n.op,.string n.s,.string n.t,.slice ak n.kids.length ck],.int .i64 (co a),.agg #[.int .i64 p.l,.bool p.d,.bool p.i,.bool p.g,.bool p.s]] w (DOut E (kidD (Uu E.L E.l) n 0 p a) w):=by
 have HU:=hid hU
 have HA:=hid ha
 have HP:=hid (et.kp_ok hG hp hK).1
 have hnb:n.kids.length≤1048576:=by have:=hG.most;omega
 obtain⟨bk,ok,rfl,hbk,hcell⟩:=kid_at hd.ev hK hk hG
 have hj:kd n 0<E.l.length:=by have:=(hG.kids 0 hK).1;omega
 obtain⟨bx,ox,ax,cx,eX,hbx,h5,hkx⟩:=node_at hd.ev hj
 have HGT:=hid (show E.l.getD (kd n 0) default=E.l[kd n 0] by rw[List.getD_eq_getElem?_getD,List.getElem?_eq_getElem hj];rfl)
 obtain⟨m,hm⟩:∃m,m=E.l[kd n 0]:=⟨_,rfl⟩
 rw[←hm]at h5 hkx HGT
 obtain⟨j,hjj⟩:∃j,j=kd n 0:=⟨_,rfl⟩
 have HJ:=hid hjj
 rw[←hjj]at h5 hcell hj HGT HU
 obtain⟨W,hW⟩:∃W,W=(w.alloc (.cells #[.int .i64 n.k,.int .i64 n.op,.string n.s,.string n.t,.slice (some ⟨bk,ok,none⟩) n.kids.length ck] 57)).alloc (.cells #[.int .i64 p.l,.bool p.d,.bool p.i,.bool p.g,.bool p.s] 26):=⟨_,rfl⟩
 have hbel:Below w.heap.size w W:=by rw[hW];exact((Below.refl _ _).alloc (Nat.le_refl _) _).alloc (by simp) _
 have HN:=hid (show NBx W w.heap.size n (some ⟨bk,ok,none⟩) ck by rw[hW];exact(two_boxes w _ _).1)
 have HB:=hid (show PBx W (w.heap.size+1) p by rw[hW];exact(two_boxes w _ _).2)
 have HD:=hid (hd.over hbel)
 have HQ:=hid (show∀w',Dr E w'→w'.cell? ⟨bk,ok,none⟩=some (.int .i64 (j:Int))∧w'.cell? ⟨bx,ox+j*5,none⟩=some (.int .i64 m.k)∧w'.cell? ⟨bx,ox+j*5+1,none⟩=some (.int .i64 m.op)∧w'.cell? ⟨bx,ox+j*5+2,none⟩=some (.string m.s)∧w'.cell? ⟨bx,ox+j*5+3,none⟩=some (.string m.t)∧w'.cell? ⟨bx,ox+j*5+4,none⟩=some (.slice ax m.kids.length cx)∧w'.cell? ⟨E.bd,1,none⟩=some (.slice (some ⟨bx,ox,none⟩) E.l.length E.cX)from fun w' h=>by
  obtain⟨f1,f2,f3,f4,f5⟩:=h5.keep h.bel hbx
  exact⟨(h.bel.cell (p:=⟨bk,ok,none⟩) hbk).trans hcell,f1,f2,f3,f4,f5,by rw[←eX];exact h.c.2.1⟩)
 have HGB:=hid (gb_bel (m:=E.mb) hbel)
 have HNE:=hid (show w.heap.size≠E.mb from fun e=>by have:=hd.memo.lt;omega)
 have y:=hid (show w.heap.size+1≠E.mb from fun e=>by have:=hd.memo.lt;omega)
 have n0:=HN.c
 have p0:=HB.c
 obtain⟨q0,q1,q2,q3,q4,q5,q6⟩:=HQ.out _ HD.out
 have k1:(0:Int)<(n.kids.length:Int):=by omega
 have j1:(j:Int)<(E.l.length:Int):=by omega
 have j0:(0:Int)≤(j:Int):=by omega
 have HKX:=hid hkx
 clear hU ha hp hd hk hcell hbel hbk hj hjj hm h5 hkx eX hbx
 go_enter Tryz.func171,Tryz.ntmps171
 go_wp2
 rw[←hW]
 clear hW
 have ND:=hid (HN.on (Below.refl _ _).drew)
 have BD:=hid (HB.on (Below.refl _ _).drew)
 have DD:=hid HD.drew
 go_region_held3 (fun w'=>w'.cell? ⟨w.heap.size,0,none⟩=some (.int .i64 n.k)∧w'.cell? ⟨w.heap.size,1,none⟩=some (.int .i64 n.op)∧w'.cell? ⟨w.heap.size,2,none⟩=some (.string n.s)∧w'.cell? ⟨w.heap.size,3,none⟩=some (.string n.t)∧w'.cell? ⟨w.heap.size,4,none⟩=some (.slice (some ⟨bk,ok,none⟩) n.kids.length ck)∧w'.cell? ⟨w.heap.size+1,0,none⟩=some (.int .i64 p.l)∧w'.cell? ⟨w.heap.size+1,1,none⟩=some (.bool p.d)∧w'.cell? ⟨w.heap.size+1,2,none⟩=some (.bool p.i)∧w'.cell? ⟨w.heap.size+1,3,none⟩=some (.bool p.g)∧w'.cell? ⟨w.heap.size+1,4,none⟩=some (.bool p.s)∧w'.cell? ⟨bk,ok,none⟩=some (.int .i64 (j:Int))∧w'.cell? ⟨bx,ox+j*5,none⟩=some (.int .i64 m.k)∧w'.cell? ⟨bx,ox+j*5+1,none⟩=some (.int .i64 m.op)∧w'.cell? ⟨bx,ox+j*5+2,none⟩=some (.string m.s)∧w'.cell? ⟨bx,ox+j*5+3,none⟩=some (.string m.t)∧w'.cell? ⟨bx,ox+j*5+4,none⟩=some (.slice ax m.kids.length cx)∧w'.cell? ⟨E.bd,1,none⟩=some (.slice (some ⟨bx,ox,none⟩) E.l.length E.cX))
  (first|assumption|with_reducible exact bq HN.out HB.out (HQ.out _ HD.out)|with_reducible exact bq ND.out BD.out (HQ.out _ DD.out)|with_reducible exact bq N5.out B5.out (HQ.out _ D5.out)|with_reducible exact bq N6.out B6.out (HQ.out _ H3.out))
  (first
   |(go_at_call 213;refine(ps.impl_kidPos n.k n.op n.s n.t (some ⟨bk,ok,none⟩) n.kids.length ck 0 p.l p.d p.i p.g p.s _ hnb).mono ?_;rintro e w5 ⟨rfl,b5⟩;have D5:=hid (Dr.over DD.out b5);have N5:=hid (NBx.on ND.out b5);have B5:=hid (PBx.on BD.out b5);have G5:=hid (gb_trans HGB.out (gb_trans (gb_bel (Below.refl _ _).drew) (gb_bel b5)));clear b5)
   |(go_at_call 108;refine(HU.out m ax cx (kp n 0 p) a _ HGT.out HKX.out D5.out HA.out HP.out).mono ?_;rintro e w6 ⟨rfl,h1,h2,h3⟩;have H1:=hid h1;have H2:=hid (gb_trans G5.out h2);have H3:=hid h3;have N6:=hid (NBx.go N5.out h2 HNE.out);have B6:=hid (PBx.go B5.out h2 y.out);clear h1 h2 h3))
 have HJE:=HJ.out
 subst HJE
 go_wp2
 go_ret
 exact⟨rfl,H1.out,H2.out,H3.out⟩
end Go.Proofs.YtnoagleifffkcaaGreatDoor.dm
