/-

-/
import Derived.Test.YtnoagleifffkcaaGreatDoorZoGDk
import Derived.Test.YtnoagleifffkcaaGreatDoorZoGDi
namespace Go.Proofs.YtnoagleifffkcaaGreatDoor.dm
open Go.ChangeShapes Go.WideShapes Go.ChangeAt Go.RowKit
open ps (Ps posOk top kidI)
open tk (Tk)
open nd (Nd Ints)
open rb (Ee Uu tkn sym ln lnF lsD brD kidD opD bodyD bodyA)
open rt (treeOk isExpr)
open et (kp kd)
open spell (Held)
set_option linter.unusedVariables false
set_option linter.unusedSimpArgs false
set_option maxRecDepth 20000
theorem u_1{E:En}{n:Nd}(hev:Ev E){i:Nat}(hi:i<E.l.length)(hn:E.l.getD i default=n)(hx:isExpr n.k=true)(h:n.k=1)(p:Ps)(a:Option Nat):(a.bind fun a=>Uu E.L E.l i a p)=tkn E.L 6 n.s a:=by
 cases a with
 |none=>exact rfl
 |some A=>
  show Uu E.L E.l i A p=_
  rw[rb.Uu_eq hev.tree hi (by rw[hn];exact hx),hn]
  unfold rb.bodyD
  (simp only[h,if_true])<;>rfl
theorem u_2{E:En}{n:Nd}(hev:Ev E){i:Nat}(hi:i<E.l.length)(hn:E.l.getD i default=n)(hx:isExpr n.k=true)(h:n.k=2)(p:Ps)(a:Option Nat):(a.bind fun a=>Uu E.L E.l i a p)=tkn E.L 3 n.s a:=by
 cases a with
 |none=>exact rfl
 |some A=>
  show Uu E.L E.l i A p=_
  rw[rb.Uu_eq hev.tree hi (by rw[hn];exact hx),hn]
  unfold rb.bodyD
  (simp only[h,if_true])<;>rfl
theorem u_3{E:En}{n:Nd}(hev:Ev E){i:Nat}(hi:i<E.l.length)(hn:E.l.getD i default=n)(hx:isExpr n.k=true)(h:n.k=3)(p:Ps)(a:Option Nat):(a.bind fun a=>Uu E.L E.l i a p)=tkn E.L 4 n.s a:=by
 cases a with
 |none=>exact rfl
 |some A=>
  show Uu E.L E.l i A p=_
  rw[rb.Uu_eq hev.tree hi (by rw[hn];exact hx),hn]
  unfold rb.bodyD
  (simp only[h,if_true])<;>rfl
theorem u_4{E:En}{n:Nd}(hev:Ev E){i:Nat}(hi:i<E.l.length)(hn:E.l.getD i default=n)(hx:isExpr n.k=true)(h:n.k=4)(p:Ps)(a:Option Nat):(a.bind fun a=>Uu E.L E.l i a p)=tkn E.L 5 n.s a:=by
 cases a with
 |none=>exact rfl
 |some A=>
  show Uu E.L E.l i A p=_
  rw[rb.Uu_eq hev.tree hi (by rw[hn];exact hx),hn]
  unfold rb.bodyD
  (simp only[h,if_true])<;>rfl
theorem u_5{E:En}{n:Nd}(hev:Ev E){i:Nat}(hi:i<E.l.length)(hn:E.l.getD i default=n)(hx:isExpr n.k=true)(h:n.k=5)(p:Ps)(a:Option Nat):(a.bind fun a=>Uu E.L E.l i a p)=brD E.L (Ee E.L E.l) n.kids 34 35 (tkn E.L 6 n.s a):=by
 cases a with
 |none=>exact rb.brD_none.symm
 |some A=>
  show Uu E.L E.l i A p=_
  rw[rb.Uu_eq hev.tree hi (by rw[hn];exact hx),hn]
  unfold rb.bodyD
  (simp only[h,if_true])<;>rfl
theorem u_6{E:En}{n:Nd}(hev:Ev E){i:Nat}(hi:i<E.l.length)(hn:E.l.getD i default=n)(hx:isExpr n.k=true)(h:n.k=6)(p:Ps)(a:Option Nat):(a.bind fun a=>Uu E.L E.l i a p)=kidD (Ee E.L E.l) n 0 p (sym E.L 68 a):=by
 cases a with
 |none=>exact rfl
 |some A=>
  show Uu E.L E.l i A p=_
  rw[rb.Uu_eq hev.tree hi (by rw[hn];exact hx),hn]
  unfold rb.bodyD
  (simp only[h,if_true])<;>rfl
theorem u_7{E:En}{n:Nd}(hev:Ev E){i:Nat}(hi:i<E.l.length)(hn:E.l.getD i default=n)(hx:isExpr n.k=true)(h:n.k=7)(p:Ps)(a:Option Nat):(a.bind fun a=>Uu E.L E.l i a p)=brD E.L (Ee E.L E.l) n.kids 32 33 (tkn E.L 7 n.s a):=by
 cases a with
 |none=>exact rb.brD_none.symm
 |some A=>
  show Uu E.L E.l i A p=_
  rw[rb.Uu_eq hev.tree hi (by rw[hn];exact hx),hn]
  unfold rb.bodyD
  (simp only[h,if_true])<;>rfl
theorem u_8{E:En}{n:Nd}(hev:Ev E){i:Nat}(hi:i<E.l.length)(hn:E.l.getD i default=n)(hx:isExpr n.k=true)(h:n.k=8)(p:Ps)(a:Option Nat):(a.bind fun a=>Uu E.L E.l i a p)=(if pe.isLen n.s=true∧n.kids=[]∧sym E.L 32 (tkn E.L 8 n.s a)=none then tkn E.L 8 n.s a else brD E.L (Ee E.L E.l) n.kids 32 33 (tkn E.L 8 n.s a)):=by
 cases a with
 |none=>exact(by
  show none=if pe.isLen n.s=true∧n.kids=[]∧sym E.L 32 (tkn E.L 8 n.s none)=none then tkn E.L 8 n.s none else brD E.L (Ee E.L E.l) n.kids 32 33 (tkn E.L 8 n.s none)
  split
  ·rfl
  ·exact rb.brD_none.symm)
 |some A=>
  show Uu E.L E.l i A p=_
  rw[rb.Uu_eq hev.tree hi (by rw[hn];exact hx),hn]
  unfold rb.bodyD
  (simp only[h,if_true])<;>rfl
theorem u_9{E:En}{n:Nd}(hev:Ev E){i:Nat}(hi:i<E.l.length)(hn:E.l.getD i default=n)(hx:isExpr n.k=true)(h:n.k=9)(p:Ps)(a:Option Nat):(a.bind fun a=>Uu E.L E.l i a p)=kidD (Uu E.L E.l) n 0 p (sym E.L n.op a):=by
 cases a with
 |none=>exact rfl
 |some A=>
  show Uu E.L E.l i A p=_
  rw[rb.Uu_eq hev.tree hi (by rw[hn];exact hx),hn]
  unfold rb.bodyD
  (simp only[h,if_true])<;>rfl
theorem u_10{E:En}{n:Nd}(hev:Ev E){i:Nat}(hi:i<E.l.length)(hn:E.l.getD i default=n)(hx:isExpr n.k=true)(h:n.k=10)(p:Ps)(a:Option Nat):(a.bind fun a=>Uu E.L E.l i a p)=sym E.L n.op (kidD (Uu E.L E.l) n 0 p a):=by
 cases a with
 |none=>exact rfl
 |some A=>
  show Uu E.L E.l i A p=_
  rw[rb.Uu_eq hev.tree hi (by rw[hn];exact hx),hn]
  unfold rb.bodyD
  (simp only[h,if_true])<;>rfl
theorem u_11{E:En}{n:Nd}(hev:Ev E){i:Nat}(hi:i<E.l.length)(hn:E.l.getD i default=n)(hx:isExpr n.k=true)(h:n.k=11)(p:Ps)(a:Option Nat):(a.bind fun a=>Uu E.L E.l i a p)=kidD (Ee E.L E.l) n 0 p (sym E.L n.op a):=by
 cases a with
 |none=>exact rfl
 |some A=>
  show Uu E.L E.l i A p=_
  rw[rb.Uu_eq hev.tree hi (by rw[hn];exact hx),hn]
  unfold rb.bodyD
  (simp only[h,if_true])<;>rfl
theorem u_12{E:En}{n:Nd}(hev:Ev E){i:Nat}(hi:i<E.l.length)(hn:E.l.getD i default=n)(hx:isExpr n.k=true)(h:n.k=12)(p:Ps)(a:Option Nat):(a.bind fun a=>Uu E.L E.l i a p)=kidD (Ee E.L E.l) n 1 p (opD E.L n.op (kidD (Ee E.L E.l) n 0 p a)):=by
 cases a with
 |none=>exact(by
  show none=kidD (Ee E.L E.l) n 1 p (opD E.L n.op none)
  have:opD E.L n.op none=none:=by unfold rb.opD;split;rfl;split<;>rfl
  rw[this];rfl)
 |some A=>
  show Uu E.L E.l i A p=_
  rw[rb.Uu_eq hev.tree hi (by rw[hn];exact hx),hn]
  unfold rb.bodyD
  (simp only[h,if_true])<;>rfl
theorem u_13{E:En}{n:Nd}(hev:Ev E){i:Nat}(hi:i<E.l.length)(hn:E.l.getD i default=n)(hx:isExpr n.k=true)(h:n.k=13)(p:Ps)(a:Option Nat):(a.bind fun a=>Uu E.L E.l i a p)=tkn E.L 6 n.s (sym E.L 24 (if 1<n.kids.length then brD E.L (Ee E.L E.l) n.kids 32 33 a else kidD (Ee E.L E.l) n 0 p a)):=by
 cases a with
 |none=>exact(by
  show none=tkn E.L 6 n.s (sym E.L 24 (if 1<n.kids.length then brD E.L (Ee E.L E.l) n.kids 32 33 none else kidD (Ee E.L E.l) n 0 p none))
  split
  ·rw[rb.brD_none];rfl
  ·rfl)
 |some A=>
  show Uu E.L E.l i A p=_
  rw[rb.Uu_eq hev.tree hi (by rw[hn];exact hx),hn]
  unfold rb.bodyD
  (simp only[h,if_true])<;>rfl
theorem u_14{E:En}{n:Nd}(hev:Ev E){i:Nat}(hi:i<E.l.length)(hn:E.l.getD i default=n)(hx:isExpr n.k=true)(h:n.k=14)(p:Ps)(a:Option Nat):(a.bind fun a=>Uu E.L E.l i a p)=kidD (Ee E.L E.l) n 2 p (sym E.L 66 (kidD (Ee E.L E.l) n 1 p (sym E.L 65 (kidD (Ee E.L E.l) n 0 p a)))):=by
 cases a with
 |none=>exact rfl
 |some A=>
  show Uu E.L E.l i A p=_
  rw[rb.Uu_eq hev.tree hi (by rw[hn];exact hx),hn]
  unfold rb.bodyD
  (simp only[h,if_true])<;>rfl
theorem u_15{E:En}{n:Nd}(hev:Ev E){i:Nat}(hi:i<E.l.length)(hn:E.l.getD i default=n)(hx:isExpr n.k=true)(h:n.k=15)(p:Ps)(a:Option Nat):(a.bind fun a=>Uu E.L E.l i a p)=kidD (Ee E.L E.l) n 1 p (sym E.L n.op (kidD (Uu E.L E.l) n 0 p a)):=by
 cases a with
 |none=>exact rfl
 |some A=>
  show Uu E.L E.l i A p=_
  rw[rb.Uu_eq hev.tree hi (by rw[hn];exact hx),hn]
  unfold rb.bodyD
  (simp only[h,if_true])<;>rfl
end Go.Proofs.YtnoagleifffkcaaGreatDoor.dm

namespace Go.Proofs.YtnoagleifffkcaaGreatDoor.dm
open Lib (hid)
open Go.ChangeShapes Go.WideShapes Go.ChangeAt Go.RowKit
open ps (Ps posOk top kidI)
open tk (Tk)
open nd (Nd Ints)
open rb (Ee Uu tkn sym ln lnF lsD brD kidD opD bodyD bodyA)
open rt (treeOk isExpr)
open et (kp kd)
open spell (Held)
set_option linter.unusedVariables false
set_option linter.unusedSimpArgs false
set_option maxRecDepth 20000
set_option maxHeartbeats 3200000 in
theorem d_un_1{E:En}(op:Int)(s t:ByteArray)(ks:List Int)(ak:Option Addr)(ck:Nat)(i:Nat)(p:Ps)(a:Option Nat)(w:World)(hi:i<E.l.length)(hn:E.l.getD i default=⟨1,op,s,t,ks⟩)(hx:isExpr 1=true)(hG:et.Good E.l i ⟨1,op,s,t,ks⟩)(hk:Ints E.W0.heap.size E.W0 ak ks)(hE:∀j,j<ks.length→EC E (kd ⟨1,op,s,t,ks⟩ j))(hd:Dr E w)(ha:In E.L a)(hp:posOk p.l p.d=true):
  Calls Tryz.prog 108 #[.pointer (some ⟨E.bd,0,none⟩),.agg #[.int .i64 1,.int .i64 op,.string s,.string t,.slice ak ks.length ck],.int .i64 (co a),.agg #[.int .i64 p.l,.bool p.d,.bool p.i,.bool p.g,.bool p.s]] w (DOut E (a.bind fun a=>Uu E.L E.l i a p) w):=by
 obtain⟨X,hX⟩:∃X,X=(a.bind fun a=>Uu E.L E.l i a p):=⟨_,rfl⟩
 rw[←hX]
 rw[u_1 hd.ev hi hn hx rfl p a]at hX
 have HX:=hid hX
 clear hX
 have HE:=hid hE
 have HA:=hid ha
 have HP:=hid hp
 have HG:=hid hG
 have HK:=hid hk
 have HI:=hid hi
 obtain⟨W,hW⟩:∃W,W=(w.alloc (.cells #[.int .i64 1,.int .i64 op,.string s,.string t,.slice ak ks.length ck] 57)).alloc (.cells #[.int .i64 p.l,.bool p.d,.bool p.i,.bool p.g,.bool p.s] 26):=⟨_,rfl⟩
 have hbel:Below w.heap.size w W:=by rw[hW];exact((Below.refl _ _).alloc (Nat.le_refl _) _).alloc (by simp) _
 have HN:=hid (show NBx W w.heap.size ⟨1,op,s,t,ks⟩ ak ck by rw[hW];exact(two_boxes w _ _).1)
 have HB:=hid (show PBx W (w.heap.size+1) p by rw[hW];exact(two_boxes w _ _).2)
 have HD:=hid (hd.over hbel)
 have HGB:=hid (gb_bel (m:=E.mb) hbel)
 have HNE:=hid (show w.heap.size≠E.mb from fun e=>by have:=hd.memo.lt;omega)
 have y:=hid (show w.heap.size+1≠E.mb from fun e=>by have:=hd.memo.lt;omega)
 obtain⟨n0,n1,n2,n3,n4⟩:=HN.c
 have p0:=HB.c
 dsimp only at n0 n1 n2 n3 n4
 clear hd ha hE hG hk hbel hp hi hn hx
 go_enter Tryz.func108,Tryz.ntmps108
 go_wp2_with fail
 rw[←hW]
 clear hW
 refine(d_token 6 s a _ HD.out HA.out).mono ?_
 rintro e wK ⟨rfl,h1,h2,h3⟩
 have K1:=hid h1
 have K2:=hid (gb_trans HGB.out h2)
 have K3:=hid h3
 clear h1 h2 h3
 go_wp2
 go_ret
 exact⟨by rw[HX.out];rfl,by rw[HX.out];exact K1.out,K2.out,K3.out⟩
set_option maxHeartbeats 3200000 in
theorem d_un_2{E:En}(op:Int)(s t:ByteArray)(ks:List Int)(ak:Option Addr)(ck:Nat)(i:Nat)(p:Ps)(a:Option Nat)(w:World)(hi:i<E.l.length)(hn:E.l.getD i default=⟨2,op,s,t,ks⟩)(hx:isExpr 2=true)(hG:et.Good E.l i ⟨2,op,s,t,ks⟩)(hk:Ints E.W0.heap.size E.W0 ak ks)(hE:∀j,j<ks.length→EC E (kd ⟨2,op,s,t,ks⟩ j))(hd:Dr E w)(ha:In E.L a)(hp:posOk p.l p.d=true):
  Calls Tryz.prog 108 #[.pointer (some ⟨E.bd,0,none⟩),.agg #[.int .i64 2,.int .i64 op,.string s,.string t,.slice ak ks.length ck],.int .i64 (co a),.agg #[.int .i64 p.l,.bool p.d,.bool p.i,.bool p.g,.bool p.s]] w (DOut E (a.bind fun a=>Uu E.L E.l i a p) w):=by
 obtain⟨X,hX⟩:∃X,X=(a.bind fun a=>Uu E.L E.l i a p):=⟨_,rfl⟩
 rw[←hX]
 rw[u_2 hd.ev hi hn hx rfl p a]at hX
 have HX:=hid hX
 clear hX
 have HE:=hid hE
 have HA:=hid ha
 have HP:=hid hp
 have HG:=hid hG
 have HK:=hid hk
 have HI:=hid hi
 obtain⟨W,hW⟩:∃W,W=(w.alloc (.cells #[.int .i64 2,.int .i64 op,.string s,.string t,.slice ak ks.length ck] 57)).alloc (.cells #[.int .i64 p.l,.bool p.d,.bool p.i,.bool p.g,.bool p.s] 26):=⟨_,rfl⟩
 have hbel:Below w.heap.size w W:=by rw[hW];exact((Below.refl _ _).alloc (Nat.le_refl _) _).alloc (by simp) _
 have HN:=hid (show NBx W w.heap.size ⟨2,op,s,t,ks⟩ ak ck by rw[hW];exact(two_boxes w _ _).1)
 have HB:=hid (show PBx W (w.heap.size+1) p by rw[hW];exact(two_boxes w _ _).2)
 have HD:=hid (hd.over hbel)
 have HGB:=hid (gb_bel (m:=E.mb) hbel)
 have HNE:=hid (show w.heap.size≠E.mb from fun e=>by have:=hd.memo.lt;omega)
 have y:=hid (show w.heap.size+1≠E.mb from fun e=>by have:=hd.memo.lt;omega)
 obtain⟨n0,n1,n2,n3,n4⟩:=HN.c
 have p0:=HB.c
 dsimp only at n0 n1 n2 n3 n4
 clear hd ha hE hG hk hbel hp hi hn hx
 go_enter Tryz.func108,Tryz.ntmps108
 go_wp2_with fail
 rw[←hW]
 clear hW
 refine(d_token 3 s a _ HD.out HA.out).mono ?_
 rintro e wK ⟨rfl,h1,h2,h3⟩
 have K1:=hid h1
 have K2:=hid (gb_trans HGB.out h2)
 have K3:=hid h3
 clear h1 h2 h3
 go_wp2
 go_ret
 exact⟨by rw[HX.out];rfl,by rw[HX.out];exact K1.out,K2.out,K3.out⟩
set_option maxHeartbeats 3200000 in
theorem d_un_3{E:En}(op:Int)(s t:ByteArray)(ks:List Int)(ak:Option Addr)(ck:Nat)(i:Nat)(p:Ps)(a:Option Nat)(w:World)(hi:i<E.l.length)(hn:E.l.getD i default=⟨3,op,s,t,ks⟩)(hx:isExpr 3=true)(hG:et.Good E.l i ⟨3,op,s,t,ks⟩)(hk:Ints E.W0.heap.size E.W0 ak ks)(hE:∀j,j<ks.length→EC E (kd ⟨3,op,s,t,ks⟩ j))(hd:Dr E w)(ha:In E.L a)(hp:posOk p.l p.d=true):
  Calls Tryz.prog 108 #[.pointer (some ⟨E.bd,0,none⟩),.agg #[.int .i64 3,.int .i64 op,.string s,.string t,.slice ak ks.length ck],.int .i64 (co a),.agg #[.int .i64 p.l,.bool p.d,.bool p.i,.bool p.g,.bool p.s]] w (DOut E (a.bind fun a=>Uu E.L E.l i a p) w):=by
 obtain⟨X,hX⟩:∃X,X=(a.bind fun a=>Uu E.L E.l i a p):=⟨_,rfl⟩
 rw[←hX]
 rw[u_3 hd.ev hi hn hx rfl p a]at hX
 have HX:=hid hX
 clear hX
 have HE:=hid hE
 have HA:=hid ha
 have HP:=hid hp
 have HG:=hid hG
 have HK:=hid hk
 have HI:=hid hi
 obtain⟨W,hW⟩:∃W,W=(w.alloc (.cells #[.int .i64 3,.int .i64 op,.string s,.string t,.slice ak ks.length ck] 57)).alloc (.cells #[.int .i64 p.l,.bool p.d,.bool p.i,.bool p.g,.bool p.s] 26):=⟨_,rfl⟩
 have hbel:Below w.heap.size w W:=by rw[hW];exact((Below.refl _ _).alloc (Nat.le_refl _) _).alloc (by simp) _
 have HN:=hid (show NBx W w.heap.size ⟨3,op,s,t,ks⟩ ak ck by rw[hW];exact(two_boxes w _ _).1)
 have HB:=hid (show PBx W (w.heap.size+1) p by rw[hW];exact(two_boxes w _ _).2)
 have HD:=hid (hd.over hbel)
 have HGB:=hid (gb_bel (m:=E.mb) hbel)
 have HNE:=hid (show w.heap.size≠E.mb from fun e=>by have:=hd.memo.lt;omega)
 have y:=hid (show w.heap.size+1≠E.mb from fun e=>by have:=hd.memo.lt;omega)
 obtain⟨n0,n1,n2,n3,n4⟩:=HN.c
 have p0:=HB.c
 dsimp only at n0 n1 n2 n3 n4
 clear hd ha hE hG hk hbel hp hi hn hx
 go_enter Tryz.func108,Tryz.ntmps108
 go_wp2_with fail
 rw[←hW]
 clear hW
 refine(d_token 4 s a _ HD.out HA.out).mono ?_
 rintro e wK ⟨rfl,h1,h2,h3⟩
 have K1:=hid h1
 have K2:=hid (gb_trans HGB.out h2)
 have K3:=hid h3
 clear h1 h2 h3
 go_wp2
 go_ret
 exact⟨by rw[HX.out];rfl,by rw[HX.out];exact K1.out,K2.out,K3.out⟩
set_option maxHeartbeats 3200000 in
theorem d_un_4{E:En}(op:Int)(s t:ByteArray)(ks:List Int)(ak:Option Addr)(ck:Nat)(i:Nat)(p:Ps)(a:Option Nat)(w:World)(hi:i<E.l.length)(hn:E.l.getD i default=⟨4,op,s,t,ks⟩)(hx:isExpr 4=true)(hG:et.Good E.l i ⟨4,op,s,t,ks⟩)(hk:Ints E.W0.heap.size E.W0 ak ks)(hE:∀j,j<ks.length→EC E (kd ⟨4,op,s,t,ks⟩ j))(hd:Dr E w)(ha:In E.L a)(hp:posOk p.l p.d=true):
  Calls Tryz.prog 108 #[.pointer (some ⟨E.bd,0,none⟩),.agg #[.int .i64 4,.int .i64 op,.string s,.string t,.slice ak ks.length ck],.int .i64 (co a),.agg #[.int .i64 p.l,.bool p.d,.bool p.i,.bool p.g,.bool p.s]] w (DOut E (a.bind fun a=>Uu E.L E.l i a p) w):=by
 obtain⟨X,hX⟩:∃X,X=(a.bind fun a=>Uu E.L E.l i a p):=⟨_,rfl⟩
 rw[←hX]
 rw[u_4 hd.ev hi hn hx rfl p a]at hX
 have HX:=hid hX
 clear hX
 have HE:=hid hE
 have HA:=hid ha
 have HP:=hid hp
 have HG:=hid hG
 have HK:=hid hk
 have HI:=hid hi
 obtain⟨W,hW⟩:∃W,W=(w.alloc (.cells #[.int .i64 4,.int .i64 op,.string s,.string t,.slice ak ks.length ck] 57)).alloc (.cells #[.int .i64 p.l,.bool p.d,.bool p.i,.bool p.g,.bool p.s] 26):=⟨_,rfl⟩
 have hbel:Below w.heap.size w W:=by rw[hW];exact((Below.refl _ _).alloc (Nat.le_refl _) _).alloc (by simp) _
 have HN:=hid (show NBx W w.heap.size ⟨4,op,s,t,ks⟩ ak ck by rw[hW];exact(two_boxes w _ _).1)
 have HB:=hid (show PBx W (w.heap.size+1) p by rw[hW];exact(two_boxes w _ _).2)
 have HD:=hid (hd.over hbel)
 have HGB:=hid (gb_bel (m:=E.mb) hbel)
 have HNE:=hid (show w.heap.size≠E.mb from fun e=>by have:=hd.memo.lt;omega)
 have y:=hid (show w.heap.size+1≠E.mb from fun e=>by have:=hd.memo.lt;omega)
 obtain⟨n0,n1,n2,n3,n4⟩:=HN.c
 have p0:=HB.c
 dsimp only at n0 n1 n2 n3 n4
 clear hd ha hE hG hk hbel hp hi hn hx
 go_enter Tryz.func108,Tryz.ntmps108
 go_wp2_with fail
 rw[←hW]
 clear hW
 refine(d_token 5 s a _ HD.out HA.out).mono ?_
 rintro e wK ⟨rfl,h1,h2,h3⟩
 have K1:=hid h1
 have K2:=hid (gb_trans HGB.out h2)
 have K3:=hid h3
 clear h1 h2 h3
 go_wp2
 go_ret
 exact⟨by rw[HX.out];rfl,by rw[HX.out];exact K1.out,K2.out,K3.out⟩
set_option maxHeartbeats 3200000 in
theorem d_un_8{E:En}(op:Int)(s t:ByteArray)(ks:List Int)(ak:Option Addr)(ck:Nat)(i:Nat)(p:Ps)(a:Option Nat)(w:World)(hi:i<E.l.length)(hn:E.l.getD i default=⟨8,op,s,t,ks⟩)(hx:isExpr 8=true)(hG:et.Good E.l i ⟨8,op,s,t,ks⟩)(hk:Ints E.W0.heap.size E.W0 ak ks)(hE:∀j,j<ks.length→EC E (kd ⟨8,op,s,t,ks⟩ j))(hd:Dr E w)(ha:In E.L a)(hp:posOk p.l p.d=true):
  Calls Tryz.prog 108 #[.pointer (some ⟨E.bd,0,none⟩),.agg #[.int .i64 8,.int .i64 op,.string s,.string t,.slice ak ks.length ck],.int .i64 (co a),.agg #[.int .i64 p.l,.bool p.d,.bool p.i,.bool p.g,.bool p.s]] w (DOut E (a.bind fun a=>Uu E.L E.l i a p) w):=by
 obtain⟨X,hX⟩:∃X,X=(a.bind fun a=>Uu E.L E.l i a p):=⟨_,rfl⟩
 rw[←hX]
 rw[u_8 hd.ev hi hn hx rfl p a]at hX
 have HX:=hid hX
 clear hX
 have HE:=hid hE
 have HA:=hid ha
 have HP:=hid hp
 have HG:=hid hG
 have HK:=hid hk
 have HI:=hid hi
 obtain⟨W,hW⟩:∃W,W=(w.alloc (.cells #[.int .i64 8,.int .i64 op,.string s,.string t,.slice ak ks.length ck] 57)).alloc (.cells #[.int .i64 p.l,.bool p.d,.bool p.i,.bool p.g,.bool p.s] 26):=⟨_,rfl⟩
 have hbel:Below w.heap.size w W:=by rw[hW];exact((Below.refl _ _).alloc (Nat.le_refl _) _).alloc (by simp) _
 have HN:=hid (show NBx W w.heap.size ⟨8,op,s,t,ks⟩ ak ck by rw[hW];exact(two_boxes w _ _).1)
 have HB:=hid (show PBx W (w.heap.size+1) p by rw[hW];exact(two_boxes w _ _).2)
 have HD:=hid (hd.over hbel)
 have HGB:=hid (gb_bel (m:=E.mb) hbel)
 have HNE:=hid (show w.heap.size≠E.mb from fun e=>by have:=hd.memo.lt;omega)
 have y:=hid (show w.heap.size+1≠E.mb from fun e=>by have:=hd.memo.lt;omega)
 obtain⟨n0,n1,n2,n3,n4⟩:=HN.c
 have p0:=HB.c
 dsimp only at n0 n1 n2 n3 n4
 clear hd ha hE hG hk hbel hp hi hn hx
 go_enter Tryz.func108,Tryz.ntmps108
 go_wp2_with fail
 rw[←hW]
 clear hW
 refine(d_builtin (⟨8,op,s,t,ks⟩) ak ck i a _ HG.out HK.out HE.out HD.out HA.out).mono ?_
 rintro e wK ⟨rfl,h1,h2,h3⟩
 rw[←HX.out]at h1⊢
 have K1:=hid h1
 have K2:=hid (gb_trans HGB.out h2)
 have K3:=hid h3
 clear h1 h2 h3
 go_wp2
 go_ret
 exact⟨rfl,K1.out,K2.out,K3.out⟩
set_option maxHeartbeats 3200000 in
theorem d_un_13{E:En}(op:Int)(s t:ByteArray)(ks:List Int)(ak:Option Addr)(ck:Nat)(i:Nat)(p:Ps)(a:Option Nat)(w:World)(hi:i<E.l.length)(hn:E.l.getD i default=⟨13,op,s,t,ks⟩)(hx:isExpr 13=true)(hG:et.Good E.l i ⟨13,op,s,t,ks⟩)(hk:Ints E.W0.heap.size E.W0 ak ks)(hE:∀j,j<ks.length→EC E (kd ⟨13,op,s,t,ks⟩ j))(hd:Dr E w)(ha:In E.L a)(hp:posOk p.l p.d=true):
  Calls Tryz.prog 108 #[.pointer (some ⟨E.bd,0,none⟩),.agg #[.int .i64 13,.int .i64 op,.string s,.string t,.slice ak ks.length ck],.int .i64 (co a),.agg #[.int .i64 p.l,.bool p.d,.bool p.i,.bool p.g,.bool p.s]] w (DOut E (a.bind fun a=>Uu E.L E.l i a p) w):=by
 obtain⟨X,hX⟩:∃X,X=(a.bind fun a=>Uu E.L E.l i a p):=⟨_,rfl⟩
 rw[←hX]
 rw[u_13 hd.ev hi hn hx rfl p a]at hX
 have HX:=hid hX
 clear hX
 have HE:=hid hE
 have HA:=hid ha
 have HP:=hid hp
 have HG:=hid hG
 have HK:=hid hk
 have HI:=hid hi
 have HLEN:=hid (show 1≤ks.length from hG.least (by simp))
 obtain⟨W,hW⟩:∃W,W=(w.alloc (.cells #[.int .i64 13,.int .i64 op,.string s,.string t,.slice ak ks.length ck] 57)).alloc (.cells #[.int .i64 p.l,.bool p.d,.bool p.i,.bool p.g,.bool p.s] 26):=⟨_,rfl⟩
 have hbel:Below w.heap.size w W:=by rw[hW];exact((Below.refl _ _).alloc (Nat.le_refl _) _).alloc (by simp) _
 have HN:=hid (show NBx W w.heap.size ⟨13,op,s,t,ks⟩ ak ck by rw[hW];exact(two_boxes w _ _).1)
 have HB:=hid (show PBx W (w.heap.size+1) p by rw[hW];exact(two_boxes w _ _).2)
 have HD:=hid (hd.over hbel)
 have HGB:=hid (gb_bel (m:=E.mb) hbel)
 have HNE:=hid (show w.heap.size≠E.mb from fun e=>by have:=hd.memo.lt;omega)
 have y:=hid (show w.heap.size+1≠E.mb from fun e=>by have:=hd.memo.lt;omega)
 obtain⟨n0,n1,n2,n3,n4⟩:=HN.c
 have p0:=HB.c
 dsimp only at n0 n1 n2 n3 n4
 clear hd ha hE hG hk hbel hp hi hn hx
 go_enter Tryz.func108,Tryz.ntmps108
 go_wp2_with fail
 rw[←hW]
 clear hW
 refine(d_in (⟨13,op,s,t,ks⟩) ak ck i p a _ HG.out HK.out HE.out HD.out HA.out HP.out HLEN.out).mono ?_
 rintro e wK ⟨rfl,h1,h2,h3⟩
 rw[←HX.out]at h1⊢
 have K1:=hid h1
 have K2:=hid (gb_trans HGB.out h2)
 have K3:=hid h3
 clear h1 h2 h3
 go_wp2
 go_ret
 exact⟨rfl,K1.out,K2.out,K3.out⟩
set_option maxHeartbeats 3200000 in
theorem d_un_14{E:En}(op:Int)(s t:ByteArray)(ks:List Int)(ak:Option Addr)(ck:Nat)(i:Nat)(p:Ps)(a:Option Nat)(w:World)(hi:i<E.l.length)(hn:E.l.getD i default=⟨14,op,s,t,ks⟩)(hx:isExpr 14=true)(hG:et.Good E.l i ⟨14,op,s,t,ks⟩)(hk:Ints E.W0.heap.size E.W0 ak ks)(hE:∀j,j<ks.length→EC E (kd ⟨14,op,s,t,ks⟩ j))(hd:Dr E w)(ha:In E.L a)(hp:posOk p.l p.d=true):
  Calls Tryz.prog 108 #[.pointer (some ⟨E.bd,0,none⟩),.agg #[.int .i64 14,.int .i64 op,.string s,.string t,.slice ak ks.length ck],.int .i64 (co a),.agg #[.int .i64 p.l,.bool p.d,.bool p.i,.bool p.g,.bool p.s]] w (DOut E (a.bind fun a=>Uu E.L E.l i a p) w):=by
 obtain⟨X,hX⟩:∃X,X=(a.bind fun a=>Uu E.L E.l i a p):=⟨_,rfl⟩
 rw[←hX]
 rw[u_14 hd.ev hi hn hx rfl p a]at hX
 have HX:=hid hX
 clear hX
 have HE:=hid hE
 have HA:=hid ha
 have HP:=hid hp
 have HG:=hid hG
 have HK:=hid hk
 have HI:=hid hi
 have HLEN:=hid (show ks.length=3 from hG.three (by simp))
 obtain⟨W,hW⟩:∃W,W=(w.alloc (.cells #[.int .i64 14,.int .i64 op,.string s,.string t,.slice ak ks.length ck] 57)).alloc (.cells #[.int .i64 p.l,.bool p.d,.bool p.i,.bool p.g,.bool p.s] 26):=⟨_,rfl⟩
 have hbel:Below w.heap.size w W:=by rw[hW];exact((Below.refl _ _).alloc (Nat.le_refl _) _).alloc (by simp) _
 have HN:=hid (show NBx W w.heap.size ⟨14,op,s,t,ks⟩ ak ck by rw[hW];exact(two_boxes w _ _).1)
 have HB:=hid (show PBx W (w.heap.size+1) p by rw[hW];exact(two_boxes w _ _).2)
 have HD:=hid (hd.over hbel)
 have HGB:=hid (gb_bel (m:=E.mb) hbel)
 have HNE:=hid (show w.heap.size≠E.mb from fun e=>by have:=hd.memo.lt;omega)
 have y:=hid (show w.heap.size+1≠E.mb from fun e=>by have:=hd.memo.lt;omega)
 obtain⟨n0,n1,n2,n3,n4⟩:=HN.c
 have p0:=HB.c
 dsimp only at n0 n1 n2 n3 n4
 clear hd ha hE hG hk hbel hp hi hn hx
 go_enter Tryz.func108,Tryz.ntmps108
 go_wp2_with fail
 rw[←hW]
 clear hW
 refine(d_cond (⟨14,op,s,t,ks⟩) ak ck i p a _ HG.out HK.out HE.out HD.out HA.out HP.out HLEN.out).mono ?_
 rintro e wK ⟨rfl,h1,h2,h3⟩
 have K1:=hid h1
 have K2:=hid (gb_trans HGB.out h2)
 have K3:=hid h3
 clear h1 h2 h3
 go_wp2
 go_ret
 exact⟨by rw[HX.out];rfl,by rw[HX.out];exact K1.out,K2.out,K3.out⟩
set_option maxHeartbeats 3200000 in
theorem d_un_12{E:En}(op:Int)(s t:ByteArray)(ks:List Int)(ak:Option Addr)(ck:Nat)(i:Nat)(p:Ps)(a:Option Nat)(w:World)(hi:i<E.l.length)(hn:E.l.getD i default=⟨12,op,s,t,ks⟩)(hx:isExpr 12=true)(hG:et.Good E.l i ⟨12,op,s,t,ks⟩)(hk:Ints E.W0.heap.size E.W0 ak ks)(hE:∀j,j<ks.length→EC E (kd ⟨12,op,s,t,ks⟩ j))(hd:Dr E w)(ha:In E.L a)(hp:posOk p.l p.d=true):
  Calls Tryz.prog 108 #[.pointer (some ⟨E.bd,0,none⟩),.agg #[.int .i64 12,.int .i64 op,.string s,.string t,.slice ak ks.length ck],.int .i64 (co a),.agg #[.int .i64 p.l,.bool p.d,.bool p.i,.bool p.g,.bool p.s]] w (DOut E (a.bind fun a=>Uu E.L E.l i a p) w):=by
 obtain⟨X,hX⟩:∃X,X=(a.bind fun a=>Uu E.L E.l i a p):=⟨_,rfl⟩
 rw[←hX]
 rw[u_12 hd.ev hi hn hx rfl p a]at hX
 have HX:=hid hX
 clear hX
 have HE:=hid hE
 have HA:=hid ha
 have HP:=hid hp
 have HG:=hid hG
 have HK:=hid hk
 have HI:=hid hi
 have HLEN:=hid (show ks.length=2 from hG.two (by simp))
 obtain⟨W,hW⟩:∃W,W=(w.alloc (.cells #[.int .i64 12,.int .i64 op,.string s,.string t,.slice ak ks.length ck] 57)).alloc (.cells #[.int .i64 p.l,.bool p.d,.bool p.i,.bool p.g,.bool p.s] 26):=⟨_,rfl⟩
 have hbel:Below w.heap.size w W:=by rw[hW];exact((Below.refl _ _).alloc (Nat.le_refl _) _).alloc (by simp) _
 have HN:=hid (show NBx W w.heap.size ⟨12,op,s,t,ks⟩ ak ck by rw[hW];exact(two_boxes w _ _).1)
 have HB:=hid (show PBx W (w.heap.size+1) p by rw[hW];exact(two_boxes w _ _).2)
 have HD:=hid (hd.over hbel)
 have HGB:=hid (gb_bel (m:=E.mb) hbel)
 have HNE:=hid (show w.heap.size≠E.mb from fun e=>by have:=hd.memo.lt;omega)
 have y:=hid (show w.heap.size+1≠E.mb from fun e=>by have:=hd.memo.lt;omega)
 obtain⟨n0,n1,n2,n3,n4⟩:=HN.c
 have p0:=HB.c
 dsimp only at n0 n1 n2 n3 n4
 clear hd ha hE hG hk hbel hp hi hn hx
 go_enter Tryz.func108,Tryz.ntmps108
 go_wp2_with fail
 rw[←hW]
 clear hW
 refine(d_binary (⟨12,op,s,t,ks⟩) ak ck i p a _ HG.out HK.out HE.out HD.out HA.out HP.out HLEN.out).mono ?_
 rintro e wK ⟨rfl,h1,h2,h3⟩
 have K1:=hid h1
 have K2:=hid (gb_trans HGB.out h2)
 have K3:=hid h3
 clear h1 h2 h3
 go_wp2
 go_ret
 exact⟨by rw[HX.out];rfl,by rw[HX.out];exact K1.out,K2.out,K3.out⟩
end Go.Proofs.YtnoagleifffkcaaGreatDoor.dm

namespace Go.Proofs.YtnoagleifffkcaaGreatDoor.dm
open Lib (hid)
open Go.ChangeShapes Go.WideShapes Go.ChangeAt Go.RowKit
open ps (Ps posOk top kidI)
open tk (Tk)
open nd (Nd Ints)
open rb (Ee Uu tkn sym ln lnF lsD brD kidD opD bodyD bodyA)
open rt (treeOk isExpr)
open et (kp kd)
open spell (Held)
set_option linter.unusedVariables false
set_option linter.unusedSimpArgs false
set_option maxRecDepth 20000
set_option maxHeartbeats 3200000 in
theorem d_un_5{E:En}(op:Int)(s t:ByteArray)(ks:List Int)(ak:Option Addr)(ck:Nat)(i:Nat)(p:Ps)(a:Option Nat)(w:World)(hi:i<E.l.length)(hn:E.l.getD i default=⟨5,op,s,t,ks⟩)(hx:isExpr 5=true)(hG:et.Good E.l i ⟨5,op,s,t,ks⟩)(hk:Ints E.W0.heap.size E.W0 ak ks)(hE:∀j,j<ks.length→EC E (kd ⟨5,op,s,t,ks⟩ j))(hd:Dr E w)(ha:In E.L a)(hp:posOk p.l p.d=true):
  Calls Tryz.prog 108 #[.pointer (some ⟨E.bd,0,none⟩),.agg #[.int .i64 5,.int .i64 op,.string s,.string t,.slice ak ks.length ck],.int .i64 (co a),.agg #[.int .i64 p.l,.bool p.d,.bool p.i,.bool p.g,.bool p.s]] w (DOut E (a.bind fun a=>Uu E.L E.l i a p) w):=by
 obtain⟨X,hX⟩:∃X,X=(a.bind fun a=>Uu E.L E.l i a p):=⟨_,rfl⟩
 rw[←hX]
 rw[u_5 hd.ev hi hn hx rfl p a]at hX
 have HX:=hid hX
 clear hX
 have HE:=hid hE
 have HA:=hid ha
 have HP:=hid hp
 have HG:=hid hG
 have HK:=hid hk
 have HI:=hid hi
 obtain⟨W,hW⟩:∃W,W=(w.alloc (.cells #[.int .i64 5,.int .i64 op,.string s,.string t,.slice ak ks.length ck] 57)).alloc (.cells #[.int .i64 p.l,.bool p.d,.bool p.i,.bool p.g,.bool p.s] 26):=⟨_,rfl⟩
 have hbel:Below w.heap.size w W:=by rw[hW];exact((Below.refl _ _).alloc (Nat.le_refl _) _).alloc (by simp) _
 have HN:=hid (show NBx W w.heap.size ⟨5,op,s,t,ks⟩ ak ck by rw[hW];exact(two_boxes w _ _).1)
 have HB:=hid (show PBx W (w.heap.size+1) p by rw[hW];exact(two_boxes w _ _).2)
 have HD:=hid (hd.over hbel)
 have HGB:=hid (gb_bel (m:=E.mb) hbel)
 have HNE:=hid (show w.heap.size≠E.mb from fun e=>by have:=hd.memo.lt;omega)
 have y:=hid (show w.heap.size+1≠E.mb from fun e=>by have:=hd.memo.lt;omega)
 obtain⟨n0,n1,n2,n3,n4⟩:=HN.c
 have p0:=HB.c
 dsimp only at n0 n1 n2 n3 n4
 clear hd ha hE hG hk hbel hp hi hn hx
 go_enter Tryz.func108,Tryz.ntmps108
 go_wp2
 rw[←hW]
 clear hW
 have ND:=hid (HN.on (Below.refl _ _).drew)
 have BD:=hid (HB.on (Below.refl _ _).drew)
 have GD:=hid (gb_trans HGB.out (gb_bel (m:=E.mb) (Below.refl W.heap.size W).drew))
 go_region_held3 (fun w'=>w'.cell? ⟨w.heap.size,0,none⟩=some (.int .i64 5)∧w'.cell? ⟨w.heap.size,1,none⟩=some (.int .i64 op)∧w'.cell? ⟨w.heap.size,2,none⟩=some (.string s)∧w'.cell? ⟨w.heap.size,3,none⟩=some (.string t)∧w'.cell? ⟨w.heap.size,4,none⟩=some (.slice ak ks.length ck)∧w'.cell? ⟨w.heap.size+1,0,none⟩=some (.int .i64 p.l)∧w'.cell? ⟨w.heap.size+1,1,none⟩=some (.bool p.d)∧w'.cell? ⟨w.heap.size+1,2,none⟩=some (.bool p.i)∧w'.cell? ⟨w.heap.size+1,3,none⟩=some (.bool p.g)∧w'.cell? ⟨w.heap.size+1,4,none⟩=some (.bool p.s))
  (first|assumption|with_reducible exact bc HN.out HB.out|with_reducible exact bc ND.out BD.out|with_reducible exact bc NK.out BK.out|with_reducible exact bc NM.out BM.out)
  (first
   |(go_at_call 166;refine(d_token 6 s a _ HD.drew HA.out).mono ?_;rintro e wK ⟨rfl,h1,h2,h3⟩;have K1:=hid h1;have K2:=hid (gb_trans GD.out h2);have K3:=hid h3;have NK:=hid (NBx.go ND.out h2 HNE.out);have BK:=hid (PBx.go BD.out h2 y.out);clear h1 h2 h3)
   |(go_at_call 167;refine(d_list (⟨5,op,s,t,ks⟩) ak ck 34 35 i _ _ HG.out HK.out HE.out K3.out K1.out).mono ?_;rintro e wM ⟨rfl,h1,h2,h3⟩;have M1:=hid h1;have M2:=hid (gb_trans K2.out h2);have M3:=hid h3;have NM:=hid (NBx.go NK.out h2 HNE.out);have BM:=hid (PBx.go BK.out h2 y.out);clear h1 h2 h3))
 go_wp2
 go_ret
 exact⟨by rw[HX.out];rfl,by rw[HX.out];exact M1.out,M2.out,M3.out⟩
set_option maxHeartbeats 3200000 in
theorem d_un_7{E:En}(op:Int)(s t:ByteArray)(ks:List Int)(ak:Option Addr)(ck:Nat)(i:Nat)(p:Ps)(a:Option Nat)(w:World)(hi:i<E.l.length)(hn:E.l.getD i default=⟨7,op,s,t,ks⟩)(hx:isExpr 7=true)(hG:et.Good E.l i ⟨7,op,s,t,ks⟩)(hk:Ints E.W0.heap.size E.W0 ak ks)(hE:∀j,j<ks.length→EC E (kd ⟨7,op,s,t,ks⟩ j))(hd:Dr E w)(ha:In E.L a)(hp:posOk p.l p.d=true):
  Calls Tryz.prog 108 #[.pointer (some ⟨E.bd,0,none⟩),.agg #[.int .i64 7,.int .i64 op,.string s,.string t,.slice ak ks.length ck],.int .i64 (co a),.agg #[.int .i64 p.l,.bool p.d,.bool p.i,.bool p.g,.bool p.s]] w (DOut E (a.bind fun a=>Uu E.L E.l i a p) w):=by
 obtain⟨X,hX⟩:∃X,X=(a.bind fun a=>Uu E.L E.l i a p):=⟨_,rfl⟩
 rw[←hX]
 rw[u_7 hd.ev hi hn hx rfl p a]at hX
 have HX:=hid hX
 clear hX
 have HE:=hid hE
 have HA:=hid ha
 have HP:=hid hp
 have HG:=hid hG
 have HK:=hid hk
 have HI:=hid hi
 obtain⟨W,hW⟩:∃W,W=(w.alloc (.cells #[.int .i64 7,.int .i64 op,.string s,.string t,.slice ak ks.length ck] 57)).alloc (.cells #[.int .i64 p.l,.bool p.d,.bool p.i,.bool p.g,.bool p.s] 26):=⟨_,rfl⟩
 have hbel:Below w.heap.size w W:=by rw[hW];exact((Below.refl _ _).alloc (Nat.le_refl _) _).alloc (by simp) _
 have HN:=hid (show NBx W w.heap.size ⟨7,op,s,t,ks⟩ ak ck by rw[hW];exact(two_boxes w _ _).1)
 have HB:=hid (show PBx W (w.heap.size+1) p by rw[hW];exact(two_boxes w _ _).2)
 have HD:=hid (hd.over hbel)
 have HGB:=hid (gb_bel (m:=E.mb) hbel)
 have HNE:=hid (show w.heap.size≠E.mb from fun e=>by have:=hd.memo.lt;omega)
 have y:=hid (show w.heap.size+1≠E.mb from fun e=>by have:=hd.memo.lt;omega)
 obtain⟨n0,n1,n2,n3,n4⟩:=HN.c
 have p0:=HB.c
 dsimp only at n0 n1 n2 n3 n4
 clear hd ha hE hG hk hbel hp hi hn hx
 go_enter Tryz.func108,Tryz.ntmps108
 go_wp2
 rw[←hW]
 clear hW
 have ND:=hid (HN.on (Below.refl _ _).drew)
 have BD:=hid (HB.on (Below.refl _ _).drew)
 have GD:=hid (gb_trans HGB.out (gb_bel (m:=E.mb) (Below.refl W.heap.size W).drew))
 go_region_held3 (fun w'=>w'.cell? ⟨w.heap.size,0,none⟩=some (.int .i64 7)∧w'.cell? ⟨w.heap.size,1,none⟩=some (.int .i64 op)∧w'.cell? ⟨w.heap.size,2,none⟩=some (.string s)∧w'.cell? ⟨w.heap.size,3,none⟩=some (.string t)∧w'.cell? ⟨w.heap.size,4,none⟩=some (.slice ak ks.length ck)∧w'.cell? ⟨w.heap.size+1,0,none⟩=some (.int .i64 p.l)∧w'.cell? ⟨w.heap.size+1,1,none⟩=some (.bool p.d)∧w'.cell? ⟨w.heap.size+1,2,none⟩=some (.bool p.i)∧w'.cell? ⟨w.heap.size+1,3,none⟩=some (.bool p.g)∧w'.cell? ⟨w.heap.size+1,4,none⟩=some (.bool p.s))
  (first|assumption|with_reducible exact bc HN.out HB.out|with_reducible exact bc ND.out BD.out|with_reducible exact bc NK.out BK.out|with_reducible exact bc NM.out BM.out)
  (first
   |(go_at_call 166;refine(d_token 7 s a _ HD.drew HA.out).mono ?_;rintro e wK ⟨rfl,h1,h2,h3⟩;have K1:=hid h1;have K2:=hid (gb_trans GD.out h2);have K3:=hid h3;have NK:=hid (NBx.go ND.out h2 HNE.out);have BK:=hid (PBx.go BD.out h2 y.out);clear h1 h2 h3)
   |(go_at_call 167;refine(d_list (⟨7,op,s,t,ks⟩) ak ck 32 33 i _ _ HG.out HK.out HE.out K3.out K1.out).mono ?_;rintro e wM ⟨rfl,h1,h2,h3⟩;have M1:=hid h1;have M2:=hid (gb_trans K2.out h2);have M3:=hid h3;have NM:=hid (NBx.go NK.out h2 HNE.out);have BM:=hid (PBx.go BK.out h2 y.out);clear h1 h2 h3))
 go_wp2
 go_ret
 exact⟨by rw[HX.out];rfl,by rw[HX.out];exact M1.out,M2.out,M3.out⟩
set_option maxHeartbeats 3200000 in
theorem d_un_6{E:En}(op:Int)(s t:ByteArray)(ks:List Int)(ak:Option Addr)(ck:Nat)(i:Nat)(p:Ps)(a:Option Nat)(w:World)(hi:i<E.l.length)(hn:E.l.getD i default=⟨6,op,s,t,ks⟩)(hx:isExpr 6=true)(hG:et.Good E.l i ⟨6,op,s,t,ks⟩)(hk:Ints E.W0.heap.size E.W0 ak ks)(hE:∀j,j<ks.length→EC E (kd ⟨6,op,s,t,ks⟩ j))(hd:Dr E w)(ha:In E.L a)(hp:posOk p.l p.d=true):
  Calls Tryz.prog 108 #[.pointer (some ⟨E.bd,0,none⟩),.agg #[.int .i64 6,.int .i64 op,.string s,.string t,.slice ak ks.length ck],.int .i64 (co a),.agg #[.int .i64 p.l,.bool p.d,.bool p.i,.bool p.g,.bool p.s]] w (DOut E (a.bind fun a=>Uu E.L E.l i a p) w):=by
 obtain⟨X,hX⟩:∃X,X=(a.bind fun a=>Uu E.L E.l i a p):=⟨_,rfl⟩
 rw[←hX]
 rw[u_6 hd.ev hi hn hx rfl p a]at hX
 have HX:=hid hX
 clear hX
 have HE:=hid hE
 have HA:=hid ha
 have HP:=hid hp
 have HG:=hid hG
 have HK:=hid hk
 have HI:=hid hi
 have HLEN:=hid (show ks.length=1 from hG.one (by simp))
 obtain⟨W,hW⟩:∃W,W=(w.alloc (.cells #[.int .i64 6,.int .i64 op,.string s,.string t,.slice ak ks.length ck] 57)).alloc (.cells #[.int .i64 p.l,.bool p.d,.bool p.i,.bool p.g,.bool p.s] 26):=⟨_,rfl⟩
 have hbel:Below w.heap.size w W:=by rw[hW];exact((Below.refl _ _).alloc (Nat.le_refl _) _).alloc (by simp) _
 have HN:=hid (show NBx W w.heap.size ⟨6,op,s,t,ks⟩ ak ck by rw[hW];exact(two_boxes w _ _).1)
 have HB:=hid (show PBx W (w.heap.size+1) p by rw[hW];exact(two_boxes w _ _).2)
 have HD:=hid (hd.over hbel)
 have HGB:=hid (gb_bel (m:=E.mb) hbel)
 have HNE:=hid (show w.heap.size≠E.mb from fun e=>by have:=hd.memo.lt;omega)
 have y:=hid (show w.heap.size+1≠E.mb from fun e=>by have:=hd.memo.lt;omega)
 obtain⟨n0,n1,n2,n3,n4⟩:=HN.c
 have p0:=HB.c
 dsimp only at n0 n1 n2 n3 n4
 clear hd ha hE hG hk hbel hp hi hn hx
 go_enter Tryz.func108,Tryz.ntmps108
 go_wp2
 rw[←hW]
 clear hW
 have ND:=hid (HN.on (Below.refl _ _).drew)
 have BD:=hid (HB.on (Below.refl _ _).drew)
 have GD:=hid (gb_trans HGB.out (gb_bel (m:=E.mb) (Below.refl W.heap.size W).drew))
 go_region_held3 (fun w'=>w'.cell? ⟨w.heap.size,0,none⟩=some (.int .i64 6)∧w'.cell? ⟨w.heap.size,1,none⟩=some (.int .i64 op)∧w'.cell? ⟨w.heap.size,2,none⟩=some (.string s)∧w'.cell? ⟨w.heap.size,3,none⟩=some (.string t)∧w'.cell? ⟨w.heap.size,4,none⟩=some (.slice ak ks.length ck)∧w'.cell? ⟨w.heap.size+1,0,none⟩=some (.int .i64 p.l)∧w'.cell? ⟨w.heap.size+1,1,none⟩=some (.bool p.d)∧w'.cell? ⟨w.heap.size+1,2,none⟩=some (.bool p.i)∧w'.cell? ⟨w.heap.size+1,3,none⟩=some (.bool p.g)∧w'.cell? ⟨w.heap.size+1,4,none⟩=some (.bool p.s))
  (first|assumption|with_reducible exact bc HN.out HB.out|with_reducible exact bc ND.out BD.out|with_reducible exact bc NK.out BK.out|with_reducible exact bc NM.out BM.out)
  (first
   |(go_at_call 170;refine(d_symbol 68 a _ HD.drew HA.out).mono ?_;rintro e wK ⟨rfl,h1,h2,h3⟩;have K1:=hid h1;have K2:=hid (gb_trans GD.out h2);have K3:=hid h3;have NK:=hid (NBx.go ND.out h2 HNE.out);have BK:=hid (PBx.go BD.out h2 y.out);clear h1 h2 h3)
   |(go_at_call 169;refine(d_kid (⟨6,op,s,t,ks⟩) ak ck 0 0 rfl i p _ _ (by have:=HLEN.out;show 0<ks.length;omega) HG.out HK.out (HE.out 0 (by have:=HLEN.out;omega)) K3.out K1.out HP.out).mono ?_;rintro e wM ⟨rfl,h1,h2,h3⟩;have M1:=hid h1;have M2:=hid (gb_trans K2.out h2);have M3:=hid h3;have NM:=hid (NBx.go NK.out h2 HNE.out);have BM:=hid (PBx.go BK.out h2 y.out);clear h1 h2 h3))
 go_wp2
 go_ret
 exact⟨by rw[HX.out];rfl,by rw[HX.out];exact M1.out,M2.out,M3.out⟩
set_option maxHeartbeats 3200000 in
theorem d_un_11{E:En}(op:Int)(s t:ByteArray)(ks:List Int)(ak:Option Addr)(ck:Nat)(i:Nat)(p:Ps)(a:Option Nat)(w:World)(hi:i<E.l.length)(hn:E.l.getD i default=⟨11,op,s,t,ks⟩)(hx:isExpr 11=true)(hG:et.Good E.l i ⟨11,op,s,t,ks⟩)(hk:Ints E.W0.heap.size E.W0 ak ks)(hE:∀j,j<ks.length→EC E (kd ⟨11,op,s,t,ks⟩ j))(hd:Dr E w)(ha:In E.L a)(hp:posOk p.l p.d=true):
  Calls Tryz.prog 108 #[.pointer (some ⟨E.bd,0,none⟩),.agg #[.int .i64 11,.int .i64 op,.string s,.string t,.slice ak ks.length ck],.int .i64 (co a),.agg #[.int .i64 p.l,.bool p.d,.bool p.i,.bool p.g,.bool p.s]] w (DOut E (a.bind fun a=>Uu E.L E.l i a p) w):=by
 obtain⟨X,hX⟩:∃X,X=(a.bind fun a=>Uu E.L E.l i a p):=⟨_,rfl⟩
 rw[←hX]
 rw[u_11 hd.ev hi hn hx rfl p a]at hX
 have HX:=hid hX
 clear hX
 have HE:=hid hE
 have HA:=hid ha
 have HP:=hid hp
 have HG:=hid hG
 have HK:=hid hk
 have HI:=hid hi
 have HLEN:=hid (show ks.length=1 from hG.one (by simp))
 obtain⟨W,hW⟩:∃W,W=(w.alloc (.cells #[.int .i64 11,.int .i64 op,.string s,.string t,.slice ak ks.length ck] 57)).alloc (.cells #[.int .i64 p.l,.bool p.d,.bool p.i,.bool p.g,.bool p.s] 26):=⟨_,rfl⟩
 have hbel:Below w.heap.size w W:=by rw[hW];exact((Below.refl _ _).alloc (Nat.le_refl _) _).alloc (by simp) _
 have HN:=hid (show NBx W w.heap.size ⟨11,op,s,t,ks⟩ ak ck by rw[hW];exact(two_boxes w _ _).1)
 have HB:=hid (show PBx W (w.heap.size+1) p by rw[hW];exact(two_boxes w _ _).2)
 have HD:=hid (hd.over hbel)
 have HGB:=hid (gb_bel (m:=E.mb) hbel)
 have HNE:=hid (show w.heap.size≠E.mb from fun e=>by have:=hd.memo.lt;omega)
 have y:=hid (show w.heap.size+1≠E.mb from fun e=>by have:=hd.memo.lt;omega)
 obtain⟨n0,n1,n2,n3,n4⟩:=HN.c
 have p0:=HB.c
 dsimp only at n0 n1 n2 n3 n4
 clear hd ha hE hG hk hbel hp hi hn hx
 go_enter Tryz.func108,Tryz.ntmps108
 go_wp2
 rw[←hW]
 clear hW
 have ND:=hid (HN.on (Below.refl _ _).drew)
 have BD:=hid (HB.on (Below.refl _ _).drew)
 have GD:=hid (gb_trans HGB.out (gb_bel (m:=E.mb) (Below.refl W.heap.size W).drew))
 go_region_held3 (fun w'=>w'.cell? ⟨w.heap.size,0,none⟩=some (.int .i64 11)∧w'.cell? ⟨w.heap.size,1,none⟩=some (.int .i64 op)∧w'.cell? ⟨w.heap.size,2,none⟩=some (.string s)∧w'.cell? ⟨w.heap.size,3,none⟩=some (.string t)∧w'.cell? ⟨w.heap.size,4,none⟩=some (.slice ak ks.length ck)∧w'.cell? ⟨w.heap.size+1,0,none⟩=some (.int .i64 p.l)∧w'.cell? ⟨w.heap.size+1,1,none⟩=some (.bool p.d)∧w'.cell? ⟨w.heap.size+1,2,none⟩=some (.bool p.i)∧w'.cell? ⟨w.heap.size+1,3,none⟩=some (.bool p.g)∧w'.cell? ⟨w.heap.size+1,4,none⟩=some (.bool p.s))
  (first|assumption|with_reducible exact bc HN.out HB.out|with_reducible exact bc ND.out BD.out|with_reducible exact bc NK.out BK.out|with_reducible exact bc NM.out BM.out)
  (first
   |(go_at_call 170;refine(d_symbol op a _ HD.drew HA.out).mono ?_;rintro e wK ⟨rfl,h1,h2,h3⟩;have K1:=hid h1;have K2:=hid (gb_trans GD.out h2);have K3:=hid h3;have NK:=hid (NBx.go ND.out h2 HNE.out);have BK:=hid (PBx.go BD.out h2 y.out);clear h1 h2 h3)
   |(go_at_call 169;refine(d_kid (⟨11,op,s,t,ks⟩) ak ck 0 0 rfl i p _ _ (by have:=HLEN.out;show 0<ks.length;omega) HG.out HK.out (HE.out 0 (by have:=HLEN.out;omega)) K3.out K1.out HP.out).mono ?_;rintro e wM ⟨rfl,h1,h2,h3⟩;have M1:=hid h1;have M2:=hid (gb_trans K2.out h2);have M3:=hid h3;have NM:=hid (NBx.go NK.out h2 HNE.out);have BM:=hid (PBx.go BK.out h2 y.out);clear h1 h2 h3))
 go_wp2
 go_ret
 exact⟨by rw[HX.out];rfl,by rw[HX.out];exact M1.out,M2.out,M3.out⟩
end Go.Proofs.YtnoagleifffkcaaGreatDoor.dm

namespace Go.Proofs.YtnoagleifffkcaaGreatDoor.dm
open Lib (hid)
open Go.ChangeShapes Go.WideShapes Go.ChangeAt Go.RowKit
open ps (Ps posOk top kidI)
open tk (Tk)
open nd (Nd Ints)
open rb (Ee Uu tkn sym ln lnF lsD brD kidD opD bodyD bodyA)
open rt (treeOk isExpr)
open et (kp kd)
open spell (Held)
set_option linter.unusedVariables false
set_option linter.unusedSimpArgs false
set_option maxRecDepth 20000
set_option maxHeartbeats 3200000 in
theorem d_un_9{E:En}(op:Int)(s t:ByteArray)(ks:List Int)(ak:Option Addr)(ck:Nat)(i:Nat)(p:Ps)(a:Option Nat)(w:World)(hi:i<E.l.length)(hn:E.l.getD i default=⟨9,op,s,t,ks⟩)(hx:isExpr 9=true)(hG:et.Good E.l i ⟨9,op,s,t,ks⟩)(hk:Ints E.W0.heap.size E.W0 ak ks)(hE:∀j,j<ks.length→EC E (kd ⟨9,op,s,t,ks⟩ j))(hU:UC E (kd ⟨9,op,s,t,ks⟩ 0))(hd:Dr E w)(ha:In E.L a)(hp:posOk p.l p.d=true):
  Calls Tryz.prog 108 #[.pointer (some ⟨E.bd,0,none⟩),.agg #[.int .i64 9,.int .i64 op,.string s,.string t,.slice ak ks.length ck],.int .i64 (co a),.agg #[.int .i64 p.l,.bool p.d,.bool p.i,.bool p.g,.bool p.s]] w (DOut E (a.bind fun a=>Uu E.L E.l i a p) w):=by
 obtain⟨X,hX⟩:∃X,X=(a.bind fun a=>Uu E.L E.l i a p):=⟨_,rfl⟩
 rw[←hX]
 rw[u_9 hd.ev hi hn hx rfl p a]at hX
 have HX:=hid hX
 clear hX
 have HE:=hid hE
 have HA:=hid ha
 have HP:=hid hp
 have HG:=hid hG
 have HK:=hid hk
 have HI:=hid hi
 have HLEN:=hid (show ks.length=1 from hG.one (by simp))
 have HU:=hid hU
 clear hU
 obtain⟨W,hW⟩:∃W,W=(w.alloc (.cells #[.int .i64 9,.int .i64 op,.string s,.string t,.slice ak ks.length ck] 57)).alloc (.cells #[.int .i64 p.l,.bool p.d,.bool p.i,.bool p.g,.bool p.s] 26):=⟨_,rfl⟩
 have hbel:Below w.heap.size w W:=by rw[hW];exact((Below.refl _ _).alloc (Nat.le_refl _) _).alloc (by simp) _
 have HN:=hid (show NBx W w.heap.size ⟨9,op,s,t,ks⟩ ak ck by rw[hW];exact(two_boxes w _ _).1)
 have HB:=hid (show PBx W (w.heap.size+1) p by rw[hW];exact(two_boxes w _ _).2)
 have HD:=hid (hd.over hbel)
 have HGB:=hid (gb_bel (m:=E.mb) hbel)
 have HNE:=hid (show w.heap.size≠E.mb from fun e=>by have:=hd.memo.lt;omega)
 have y:=hid (show w.heap.size+1≠E.mb from fun e=>by have:=hd.memo.lt;omega)
 obtain⟨n0,n1,n2,n3,n4⟩:=HN.c
 have p0:=HB.c
 dsimp only at n0 n1 n2 n3 n4
 clear hd ha hE hG hk hbel hp hi hn hx
 go_enter Tryz.func108,Tryz.ntmps108
 go_wp2
 rw[←hW]
 clear hW
 have ND:=hid (HN.on (Below.refl _ _).drew)
 have BD:=hid (HB.on (Below.refl _ _).drew)
 have GD:=hid (gb_trans HGB.out (gb_bel (m:=E.mb) (Below.refl W.heap.size W).drew))
 go_region_held3 (fun w'=>w'.cell? ⟨w.heap.size,0,none⟩=some (.int .i64 9)∧w'.cell? ⟨w.heap.size,1,none⟩=some (.int .i64 op)∧w'.cell? ⟨w.heap.size,2,none⟩=some (.string s)∧w'.cell? ⟨w.heap.size,3,none⟩=some (.string t)∧w'.cell? ⟨w.heap.size,4,none⟩=some (.slice ak ks.length ck)∧w'.cell? ⟨w.heap.size+1,0,none⟩=some (.int .i64 p.l)∧w'.cell? ⟨w.heap.size+1,1,none⟩=some (.bool p.d)∧w'.cell? ⟨w.heap.size+1,2,none⟩=some (.bool p.i)∧w'.cell? ⟨w.heap.size+1,3,none⟩=some (.bool p.g)∧w'.cell? ⟨w.heap.size+1,4,none⟩=some (.bool p.s))
  (first|assumption|with_reducible exact bc HN.out HB.out|with_reducible exact bc ND.out BD.out|with_reducible exact bc NK.out BK.out|with_reducible exact bc NM.out BM.out)
  (first
   |(go_at_call 170;refine(d_symbol op a _ HD.drew HA.out).mono ?_;rintro e wK ⟨rfl,h1,h2,h3⟩;have K1:=hid h1;have K2:=hid (gb_trans GD.out h2);have K3:=hid h3;have NK:=hid (NBx.go ND.out h2 HNE.out);have BK:=hid (PBx.go BD.out h2 y.out);clear h1 h2 h3)
   |(go_at_call 171;refine(d_target (⟨9,op,s,t,ks⟩) ak ck i p _ _ (by have:=HLEN.out;show 0<ks.length;omega) HI.out HG.out HK.out HU.out K3.out K1.out HP.out).mono ?_;rintro e wM ⟨rfl,h1,h2,h3⟩;have M1:=hid h1;have M2:=hid (gb_trans K2.out h2);have M3:=hid h3;have NM:=hid (NBx.go NK.out h2 HNE.out);have BM:=hid (PBx.go BK.out h2 y.out);clear h1 h2 h3))
 go_wp2
 go_ret
 exact⟨by rw[HX.out];rfl,by rw[HX.out];exact M1.out,M2.out,M3.out⟩
set_option maxHeartbeats 3200000 in
theorem d_un_10{E:En}(op:Int)(s t:ByteArray)(ks:List Int)(ak:Option Addr)(ck:Nat)(i:Nat)(p:Ps)(a:Option Nat)(w:World)(hi:i<E.l.length)(hn:E.l.getD i default=⟨10,op,s,t,ks⟩)(hx:isExpr 10=true)(hG:et.Good E.l i ⟨10,op,s,t,ks⟩)(hk:Ints E.W0.heap.size E.W0 ak ks)(hE:∀j,j<ks.length→EC E (kd ⟨10,op,s,t,ks⟩ j))(hU:UC E (kd ⟨10,op,s,t,ks⟩ 0))(hd:Dr E w)(ha:In E.L a)(hp:posOk p.l p.d=true):
  Calls Tryz.prog 108 #[.pointer (some ⟨E.bd,0,none⟩),.agg #[.int .i64 10,.int .i64 op,.string s,.string t,.slice ak ks.length ck],.int .i64 (co a),.agg #[.int .i64 p.l,.bool p.d,.bool p.i,.bool p.g,.bool p.s]] w (DOut E (a.bind fun a=>Uu E.L E.l i a p) w):=by
 obtain⟨X,hX⟩:∃X,X=(a.bind fun a=>Uu E.L E.l i a p):=⟨_,rfl⟩
 rw[←hX]
 rw[u_10 hd.ev hi hn hx rfl p a]at hX
 have HX:=hid hX
 clear hX
 have HE:=hid hE
 have HA:=hid ha
 have HP:=hid hp
 have HG:=hid hG
 have HK:=hid hk
 have HI:=hid hi
 have HLEN:=hid (show ks.length=1 from hG.one (by simp))
 have HU:=hid hU
 clear hU
 obtain⟨W,hW⟩:∃W,W=(w.alloc (.cells #[.int .i64 10,.int .i64 op,.string s,.string t,.slice ak ks.length ck] 57)).alloc (.cells #[.int .i64 p.l,.bool p.d,.bool p.i,.bool p.g,.bool p.s] 26):=⟨_,rfl⟩
 have hbel:Below w.heap.size w W:=by rw[hW];exact((Below.refl _ _).alloc (Nat.le_refl _) _).alloc (by simp) _
 have HN:=hid (show NBx W w.heap.size ⟨10,op,s,t,ks⟩ ak ck by rw[hW];exact(two_boxes w _ _).1)
 have HB:=hid (show PBx W (w.heap.size+1) p by rw[hW];exact(two_boxes w _ _).2)
 have HD:=hid (hd.over hbel)
 have HGB:=hid (gb_bel (m:=E.mb) hbel)
 have HNE:=hid (show w.heap.size≠E.mb from fun e=>by have:=hd.memo.lt;omega)
 have y:=hid (show w.heap.size+1≠E.mb from fun e=>by have:=hd.memo.lt;omega)
 obtain⟨n0,n1,n2,n3,n4⟩:=HN.c
 have p0:=HB.c
 dsimp only at n0 n1 n2 n3 n4
 clear hd ha hE hG hk hbel hp hi hn hx
 go_enter Tryz.func108,Tryz.ntmps108
 go_wp2
 rw[←hW]
 clear hW
 have ND:=hid (HN.on (Below.refl _ _).drew)
 have BD:=hid (HB.on (Below.refl _ _).drew)
 have GD:=hid (gb_trans HGB.out (gb_bel (m:=E.mb) (Below.refl W.heap.size W).drew))
 go_region_held3 (fun w'=>w'.cell? ⟨w.heap.size,0,none⟩=some (.int .i64 10)∧w'.cell? ⟨w.heap.size,1,none⟩=some (.int .i64 op)∧w'.cell? ⟨w.heap.size,2,none⟩=some (.string s)∧w'.cell? ⟨w.heap.size,3,none⟩=some (.string t)∧w'.cell? ⟨w.heap.size,4,none⟩=some (.slice ak ks.length ck)∧w'.cell? ⟨w.heap.size+1,0,none⟩=some (.int .i64 p.l)∧w'.cell? ⟨w.heap.size+1,1,none⟩=some (.bool p.d)∧w'.cell? ⟨w.heap.size+1,2,none⟩=some (.bool p.i)∧w'.cell? ⟨w.heap.size+1,3,none⟩=some (.bool p.g)∧w'.cell? ⟨w.heap.size+1,4,none⟩=some (.bool p.s))
  (first|assumption|with_reducible exact bc HN.out HB.out|with_reducible exact bc ND.out BD.out|with_reducible exact bc NK.out BK.out|with_reducible exact bc NM.out BM.out)
  (first
   |(go_at_call 171;refine(d_target (⟨10,op,s,t,ks⟩) ak ck i p a _ (by have:=HLEN.out;show 0<ks.length;omega) HI.out HG.out HK.out HU.out HD.drew HA.out HP.out).mono ?_;rintro e wK ⟨rfl,h1,h2,h3⟩;have K1:=hid h1;have K2:=hid (gb_trans GD.out h2);have K3:=hid h3;have NK:=hid (NBx.go ND.out h2 HNE.out);have BK:=hid (PBx.go BD.out h2 y.out);clear h1 h2 h3)
   |(go_at_call 170;refine(d_symbol op _ _ K3.out K1.out).mono ?_;rintro e wM ⟨rfl,h1,h2,h3⟩;have M1:=hid h1;have M2:=hid (gb_trans K2.out h2);have M3:=hid h3;have NM:=hid (NBx.go NK.out h2 HNE.out);have BM:=hid (PBx.go BK.out h2 y.out);clear h1 h2 h3))
 go_wp2
 go_ret
 exact⟨by rw[HX.out];rfl,by rw[HX.out];exact M1.out,M2.out,M3.out⟩
set_option maxHeartbeats 3200000 in
theorem d_un_15{E:En}(op:Int)(s t:ByteArray)(ks:List Int)(ak:Option Addr)(ck:Nat)(i:Nat)(p:Ps)(a:Option Nat)(w:World)(hi:i<E.l.length)(hn:E.l.getD i default=⟨15,op,s,t,ks⟩)(hx:isExpr 15=true)(hG:et.Good E.l i ⟨15,op,s,t,ks⟩)(hk:Ints E.W0.heap.size E.W0 ak ks)(hE:∀j,j<ks.length→EC E (kd ⟨15,op,s,t,ks⟩ j))(hU:UC E (kd ⟨15,op,s,t,ks⟩ 0))(hd:Dr E w)(ha:In E.L a)(hp:posOk p.l p.d=true):
  Calls Tryz.prog 108 #[.pointer (some ⟨E.bd,0,none⟩),.agg #[.int .i64 15,.int .i64 op,.string s,.string t,.slice ak ks.length ck],.int .i64 (co a),.agg #[.int .i64 p.l,.bool p.d,.bool p.i,.bool p.g,.bool p.s]] w (DOut E (a.bind fun a=>Uu E.L E.l i a p) w):=by
 obtain⟨X,hX⟩:∃X,X=(a.bind fun a=>Uu E.L E.l i a p):=⟨_,rfl⟩
 rw[←hX]
 rw[u_15 hd.ev hi hn hx rfl p a]at hX
 have HX:=hid hX
 clear hX
 have HE:=hid hE
 have HA:=hid ha
 have HP:=hid hp
 have HG:=hid hG
 have HK:=hid hk
 have HI:=hid hi
 have HLEN:=hid (show ks.length=2 from hG.two (by simp))
 have HU:=hid hU
 clear hU
 obtain⟨W,hW⟩:∃W,W=(w.alloc (.cells #[.int .i64 15,.int .i64 op,.string s,.string t,.slice ak ks.length ck] 57)).alloc (.cells #[.int .i64 p.l,.bool p.d,.bool p.i,.bool p.g,.bool p.s] 26):=⟨_,rfl⟩
 have hbel:Below w.heap.size w W:=by rw[hW];exact((Below.refl _ _).alloc (Nat.le_refl _) _).alloc (by simp) _
 have HN:=hid (show NBx W w.heap.size ⟨15,op,s,t,ks⟩ ak ck by rw[hW];exact(two_boxes w _ _).1)
 have HB:=hid (show PBx W (w.heap.size+1) p by rw[hW];exact(two_boxes w _ _).2)
 have HD:=hid (hd.over hbel)
 have HGB:=hid (gb_bel (m:=E.mb) hbel)
 have HNE:=hid (show w.heap.size≠E.mb from fun e=>by have:=hd.memo.lt;omega)
 have y:=hid (show w.heap.size+1≠E.mb from fun e=>by have:=hd.memo.lt;omega)
 obtain⟨n0,n1,n2,n3,n4⟩:=HN.c
 have p0:=HB.c
 dsimp only at n0 n1 n2 n3 n4
 clear hd ha hE hG hk hbel hp hi hn hx
 go_enter Tryz.func108,Tryz.ntmps108
 go_wp2
 rw[←hW]
 clear hW
 have ND:=hid (HN.on (Below.refl _ _).drew)
 have BD:=hid (HB.on (Below.refl _ _).drew)
 have GD:=hid (gb_trans HGB.out (gb_bel (m:=E.mb) (Below.refl W.heap.size W).drew))
 go_region_held3 (fun w'=>w'.cell? ⟨w.heap.size,0,none⟩=some (.int .i64 15)∧w'.cell? ⟨w.heap.size,1,none⟩=some (.int .i64 op)∧w'.cell? ⟨w.heap.size,2,none⟩=some (.string s)∧w'.cell? ⟨w.heap.size,3,none⟩=some (.string t)∧w'.cell? ⟨w.heap.size,4,none⟩=some (.slice ak ks.length ck)∧w'.cell? ⟨w.heap.size+1,0,none⟩=some (.int .i64 p.l)∧w'.cell? ⟨w.heap.size+1,1,none⟩=some (.bool p.d)∧w'.cell? ⟨w.heap.size+1,2,none⟩=some (.bool p.i)∧w'.cell? ⟨w.heap.size+1,3,none⟩=some (.bool p.g)∧w'.cell? ⟨w.heap.size+1,4,none⟩=some (.bool p.s))
  (first|assumption|with_reducible exact bc HN.out HB.out|with_reducible exact bc ND.out BD.out|with_reducible exact bc NK.out BK.out|with_reducible exact bc NM.out BM.out|with_reducible exact bc NR.out BR.out)
  (first
   |(go_at_call 171;refine(d_target (⟨15,op,s,t,ks⟩) ak ck i p a _ (by have:=HLEN.out;show 0<ks.length;omega) HI.out HG.out HK.out HU.out HD.drew HA.out HP.out).mono ?_;rintro e wK ⟨rfl,h1,h2,h3⟩;have K1:=hid h1;have K2:=hid (gb_trans GD.out h2);have K3:=hid h3;have NK:=hid (NBx.go ND.out h2 HNE.out);have BK:=hid (PBx.go BD.out h2 y.out);clear h1 h2 h3)
   |(go_at_call 170;refine(d_symbol op _ _ K3.out K1.out).mono ?_;rintro e wM ⟨rfl,h1,h2,h3⟩;have M1:=hid h1;have M2:=hid (gb_trans K2.out h2);have M3:=hid h3;have NM:=hid (NBx.go NK.out h2 HNE.out);have BM:=hid (PBx.go BK.out h2 y.out);clear h1 h2 h3)
   |(go_at_call 169;refine(d_kid (⟨15,op,s,t,ks⟩) ak ck 1 1 rfl i p _ _ (by have:=HLEN.out;show 1<ks.length;omega) HG.out HK.out (HE.out 1 (by have:=HLEN.out;omega)) M3.out M1.out HP.out).mono ?_;rintro e wR ⟨rfl,h1,h2,h3⟩;have R1:=hid h1;have R2:=hid (gb_trans M2.out h2);have R3:=hid h3;have NR:=hid (NBx.go NM.out h2 HNE.out);have BR:=hid (PBx.go BM.out h2 y.out);clear h1 h2 h3))
 go_wp2
 go_ret
 exact⟨by rw[HX.out];rfl,by rw[HX.out];exact R1.out,R2.out,R3.out⟩
end Go.Proofs.YtnoagleifffkcaaGreatDoor.dm
