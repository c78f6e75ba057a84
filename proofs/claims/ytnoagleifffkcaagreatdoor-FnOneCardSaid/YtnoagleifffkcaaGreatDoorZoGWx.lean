/-

-/
import Derived.Test.YtnoagleifffkcaaGreatDoorZoGWr
namespace Go.Proofs.YtnoagleifffkcaaGreatDoor.tw
open Lib (hid)
open Go.ChangeShapes Go.WideShapes Go.ChangeAt Go.RowKit
open tk (Tk)
open own
open nd (Nd Ints)
open ps (Ps posOk kidI top)
open spell (Held)
open et
set_option linter.unusedVariables false
set_option maxRecDepth 20000
structure Ex(b bl o g:Nat)(a:Option Addr)(m cap:Nat)(fv v:Value)(n:Nd)(ak:Option Addr)(ck:Nat)(q:Ps)(w:World):Prop where
 x0:w.cell? ⟨b,0,none⟩=some (.slice a m cap)
 x1:w.cell? ⟨b,1,none⟩=some fv
 x2:w.cell? ⟨b,2,none⟩=some v
 y0:w.cell? ⟨bl,o,none⟩=some (.int .i64 n.k)
 y1:w.cell? ⟨bl,o+1,none⟩=some (.int .i64 n.op)
 y2:w.cell? ⟨bl,o+2,none⟩=some (.string n.s)
 y3:w.cell? ⟨bl,o+3,none⟩=some (.string n.t)
 y4:w.cell? ⟨bl,o+4,none⟩=some (.slice ak n.kids.length ck)
 z0:w.cell? ⟨g,0,none⟩=some (.int .i64 q.l)
 z1:w.cell? ⟨g,1,none⟩=some (.bool q.d)
 z2:w.cell? ⟨g,2,none⟩=some (.bool q.i)
 z3:w.cell? ⟨g,3,none⟩=some (.bool q.g)
 z4:w.cell? ⟨g,4,none⟩=some (.bool q.s)
 lt:b<w.heap.size∧bl<w.heap.size∧g<w.heap.size
section
variable {b bl o g:Nat} {a:Option Addr} {m cap:Nat} {fv v:Value} {n:Nd} {ak:Option Addr} {ck:Nat} {q:Ps} {w w':World}
theorem Ex.c(h:Ex b bl o g a m cap fv v n ak ck q w):w.cell? ⟨b,0,none⟩=some (.slice a m cap)∧w.cell? ⟨b,1,none⟩=some fv∧w.cell? ⟨b,2,none⟩=some v∧w.cell? ⟨bl,o,none⟩=some (.int .i64 n.k)∧w.cell? ⟨bl,o+1,none⟩=some (.int .i64 n.op)∧w.cell? ⟨bl,o+2,none⟩=some (.string n.s)∧w.cell? ⟨bl,o+3,none⟩=some (.string n.t)∧w.cell? ⟨bl,o+4,none⟩=some (.slice ak n.kids.length ck)∧w.cell? ⟨g,0,none⟩=some (.int .i64 q.l)∧w.cell? ⟨g,1,none⟩=some (.bool q.d)∧w.cell? ⟨g,2,none⟩=some (.bool q.i)∧w.cell? ⟨g,3,none⟩=some (.bool q.g)∧w.cell? ⟨g,4,none⟩=some (.bool q.s):=
 ⟨h.x0,h.x1,h.x2,h.y0,h.y1,h.y2,h.y3,h.y4,h.z0,h.z1,h.z2,h.z3,h.z4⟩
theorem Ex.keep(h:Ex b bl o g a m cap fv v n ak ck q w)(hb:Below w.heap.size w w'):Ex b bl o g a m cap fv v n ak ck q w':=
 ⟨(hb.cell (p:=⟨b,0,none⟩) h.lt.1).trans h.x0,(hb.cell (p:=⟨b,1,none⟩) h.lt.1).trans h.x1,(hb.cell (p:=⟨b,2,none⟩) h.lt.1).trans h.x2,
  (hb.cell (p:=⟨bl,o,none⟩) h.lt.2.1).trans h.y0,(hb.cell (p:=⟨bl,o+1,none⟩) h.lt.2.1).trans h.y1,(hb.cell (p:=⟨bl,o+2,none⟩) h.lt.2.1).trans h.y2,(hb.cell (p:=⟨bl,o+3,none⟩) h.lt.2.1).trans h.y3,(hb.cell (p:=⟨bl,o+4,none⟩) h.lt.2.1).trans h.y4,
  (hb.cell (p:=⟨g,0,none⟩) h.lt.2.2).trans h.z0,(hb.cell (p:=⟨g,1,none⟩) h.lt.2.2).trans h.z1,(hb.cell (p:=⟨g,2,none⟩) h.lt.2.2).trans h.z2,(hb.cell (p:=⟨g,3,none⟩) h.lt.2.2).trans h.z3,(hb.cell (p:=⟨g,4,none⟩) h.lt.2.2).trans h.z4,
  ⟨Nat.lt_of_lt_of_le h.lt.1 hb.size,Nat.lt_of_lt_of_le h.lt.2.1 hb.size,Nat.lt_of_lt_of_le h.lt.2.2 hb.size⟩⟩
theorem Ex.drew(h:Ex b bl o g a m cap fv v n ak ck q w):Ex b bl o g a m cap fv v n ak ck q w.drew:=h.keep ((Below.refl _ _).drew)
end
theorem Ex.start{w0:World}{a:Option Addr}{m cap:Nat}{fv v:Value}{ts:List Tk}{w:World}(hst:St w0 a m cap fv v ts w){bl o:Nat}{n:Nd}{ak:Option Addr}{ck:Nat}(h5:nd.Five w0 bl o n ak ck)(hb:bl<w0.heap.size)(q:Ps):
  Ex w0.heap.size bl o w.heap.size a m cap fv v n ak ck q (w.alloc (.cells #[.int .i64 q.l,.bool q.d,.bool q.i,.bool q.g,.bool q.s] 26)):=by
 obtain⟨x0,x1,x2⟩:=(hst.alloc (.cells #[.int .i64 q.l,.bool q.d,.bool q.i,.bool q.g,.bool q.s] 26)).c
 obtain⟨y0,y1,y2,y3,y4⟩:=h5.keep (hst.alloc (.cells #[.int .i64 q.l,.bool q.d,.bool q.i,.bool q.g,.bool q.s] 26)).bel hb
 have hn:=heap_alloc_new w (.cells #[.int .i64 q.l,.bool q.d,.bool q.i,.bool q.g,.bool q.s] 26)
 have:=hst.lt
 exact⟨x0,x1,x2,y0,y1,y2,y3,y4,by rw[cell_of_row _ _ 0 _ _ _ hn];rfl,by rw[cell_of_row _ _ 1 _ _ _ hn];rfl,by rw[cell_of_row _ _ 2 _ _ _ hn];rfl,by rw[cell_of_row _ _ 3 _ _ _ hn];rfl,by rw[cell_of_row _ _ 4 _ _ _ hn];rfl,by simp;omega⟩
set_option maxHeartbeats 1600000 in
theorem expr_mis{w0:World}{a:Option Addr}{m cap:Nat}{l:List Nd}{U:Nat→Ps→List Tk}(i:Nat)(n:Nd)(hh:Held w0)(hm:m=l.length)(hmx:m≤1048576)(hi:i<m)(hn:l.getD i default=n)(hc:nd.Lies w0.heap.size w0 a l)
  (hU:CallE 53 w0 a m cap (.func (.func 26) #[] #[]) i (U i)):CallE 27 w0 a m cap (.func (.func 26) #[] #[]) i (par mis l U i):=by
 intro q hq v ts w hst hl
 have hil:i<l.length:=hm▸hi
 rw[getD_at hil]at hn
 obtain⟨bl,ol,rfl,hbl,hnode⟩:=nd.lies_at hc hil
 obtain⟨ak,ck,h5,hik⟩:=hnode i hil
 rw[hn]at h5 hik
 have hpar:par mis l U i q=if mis n q=true then tok 32::(U i top++[tok 33])else U i q:=by unfold par;rw[getD_at hil,hn]
 rw[hpar]at hl⊢
 have X0:=Ex.start hst h5 hbl q
 have HX:=hid X0
 have HS:=hid (hst.alloc (.cells #[.int .i64 q.l,.bool q.d,.bool q.i,.bool q.g,.bool q.s] 26))
 have HG:=hid (show Gr w0.heap.size v v w (w.alloc (.cells #[.int .i64 q.l,.bool q.d,.bool q.i,.bool q.g,.bool q.s] 26))from Gr.quiet ((Below.refl _ _).alloc (Nat.le_refl _) _))
 have Y0:=hid X0.drew.c
 have HU:=hid hU
 have HH:=hid hh
 have HQ:=hid hq
 obtain⟨C,hC⟩:∃C,mis n q=C:=⟨_,rfl⟩
 rw[hC]at hl⊢
 have HC:=hid hC
 have HL:=hid hl
 have G:(0:Int)≤(i:Int):=by omega
 have F:(i:Int)<(m:Int):=by omega
 clear hU hh hst hl hC X0 h5 hik hnode hc hpar hn hm hi hil hq
 obtain⟨W0,y⟩:∃W,W=w.alloc (.cells #[.int .i64 q.l,.bool q.d,.bool q.i,.bool q.g,.bool q.s] 26):=⟨_,rfl⟩
 cases C
 ·have j:=hid (show ts.length+(U i q).length≤1048576 from HL.out)
  go_enter Tryz.func27,Tryz.ntmps27
  go_wp2_with fail
  rw[←y]at HX HS HG Y0⊢
  clear y
  go_region_held3 (fun w'=>w'.cell? ⟨w0.heap.size,0,none⟩=some (.slice (some ⟨bl,ol,none⟩) m cap)∧w'.cell? ⟨w0.heap.size,1,none⟩=some (.func (.func 26) #[] #[])∧w'.cell? ⟨w0.heap.size,2,none⟩=some v∧w'.cell? ⟨bl,ol+i*5,none⟩=some (.int .i64 n.k)∧w'.cell? ⟨bl,ol+i*5+1,none⟩=some (.int .i64 n.op)∧w'.cell? ⟨bl,ol+i*5+2,none⟩=some (.string n.s)∧w'.cell? ⟨bl,ol+i*5+3,none⟩=some (.string n.t)∧w'.cell? ⟨bl,ol+i*5+4,none⟩=some (.slice ak n.kids.length ck)∧w'.cell? ⟨w.heap.size,0,none⟩=some (.int .i64 q.l)∧w'.cell? ⟨w.heap.size,1,none⟩=some (.bool q.d)∧w'.cell? ⟨w.heap.size,2,none⟩=some (.bool q.i)∧w'.cell? ⟨w.heap.size,3,none⟩=some (.bool q.g)∧w'.cell? ⟨w.heap.size,4,none⟩=some (.bool q.s))
   (first|with_reducible exact Y0.out|with_reducible exact X1.out.c)
   (first|(go_at_call 26;refine(misfits_any n ak ck q _).mono ?_;rw[HC.out];rintro e w1 ⟨rfl,b1⟩;have X1:=hid (HX.keep (undrew b1));have S1:=hid (HS.keep (undrew b1));have G1:=hid (HG.trans (Gr.quiet (undrew b1)));clear b1))
  obtain⟨-,-,-,-,-,-,-,-,p0,p1,p2,p3,p4⟩:=X1.c
  go_wp2_with (go_at_call 53;refine(HU.out q HQ.out _ _ _ S1.out j.out).mono ?_;rintro e w2 ⟨rfl,hput⟩;have HP:=hid hput;clear hput)
  go_end0
  obtain⟨v2,s2,g2⟩:=HP.out
  exact⟨rfl,v2,s2,G1.trans g2⟩
 ·have j:=hid (show ts.length+(tok 32::(U i top++[tok 33])).length≤1048576 from HL.out)
  simp only[List.length_cons,List.length_append,List.length_nil]at j
  go_enter Tryz.func27,Tryz.ntmps27
  go_wp2_with fail
  rw[←y]at HX HS HG Y0⊢
  clear y
  go_region_held3 (fun w'=>w'.cell? ⟨w0.heap.size,0,none⟩=some (.slice (some ⟨bl,ol,none⟩) m cap)∧w'.cell? ⟨w0.heap.size,1,none⟩=some (.func (.func 26) #[] #[])∧w'.cell? ⟨w0.heap.size,2,none⟩=some v∧w'.cell? ⟨bl,ol+i*5,none⟩=some (.int .i64 n.k)∧w'.cell? ⟨bl,ol+i*5+1,none⟩=some (.int .i64 n.op)∧w'.cell? ⟨bl,ol+i*5+2,none⟩=some (.string n.s)∧w'.cell? ⟨bl,ol+i*5+3,none⟩=some (.string n.t)∧w'.cell? ⟨bl,ol+i*5+4,none⟩=some (.slice ak n.kids.length ck)∧w'.cell? ⟨w.heap.size,0,none⟩=some (.int .i64 q.l)∧w'.cell? ⟨w.heap.size,1,none⟩=some (.bool q.d)∧w'.cell? ⟨w.heap.size,2,none⟩=some (.bool q.i)∧w'.cell? ⟨w.heap.size,3,none⟩=some (.bool q.g)∧w'.cell? ⟨w.heap.size,4,none⟩=some (.bool q.s))
   (first|with_reducible exact Y0.out|with_reducible exact X1.out.c)
   (first|(go_at_call 26;refine(misfits_any n ak ck q _).mono ?_;rw[HC.out];rintro e w1 ⟨rfl,b1⟩;have X1:=hid (HX.keep (undrew b1));have S1:=hid (HS.keep (undrew b1));have G1:=hid (HG.trans (Gr.quiet (undrew b1)));clear b1))
  have L1:=hid (show ts.length≤1048576 by have:=j.out;omega)
  have L2:=hid (show(ts++[tok 32]).length+(U i top).length≤1048576 by have:=j.out;simp only[List.length_cons,List.length_append,List.length_nil];omega)
  have L3:=hid (show(ts++[tok 32]++U i top).length≤1048576 by have:=j.out;simp only[List.length_cons,List.length_append,List.length_nil];omega)
  go_wp2_with fail
  refine(symbol_any HH.out 32 _ L1.out S1.out).mono ?_
  rintro e w2 ⟨rfl,v2,s2,g2⟩
  have S2:=hid s2
  have G2:=hid (G1.trans g2)
  clear s2 g2
  go_wp2_with fail
  refine(ps.impl_top _).mono ?_
  rintro e w3 ⟨rfl,b3⟩
  have S3:=hid (S2.keep b3)
  have G3:=hid (G2.trans (Gr.quiet b3))
  clear b3
  go_wp2_with fail
  refine(HU.out top top_ok _ _ _ S3.out L2.out).mono ?_
  rintro e w4 ⟨rfl,v4,s4,g4⟩
  have S4:=hid s4
  have G4:=hid (G3.trans g4)
  clear s4 g4
  go_wp2_with fail
  refine(symbol_any HH.out 33 _ L3.out S4.out).mono ?_
  rintro e w5 ⟨rfl,v5,s5,g5⟩
  have S5:=hid s5
  have G5:=hid (G4.trans g5)
  clear s5 g5
  go_wp2
  go_end0
  refine⟨rfl,v5, ?_,G5.out⟩
  have:=S5.out
  simpa only[List.append_assoc,List.cons_append,List.nil_append,if_pos]using this
end Go.Proofs.YtnoagleifffkcaaGreatDoor.tw

namespace Go.Proofs.YtnoagleifffkcaaGreatDoor.tw
open Lib (hid)
open Go.ChangeShapes Go.WideShapes Go.ChangeAt Go.RowKit
open tk (Tk)
open own
open nd (Nd Ints)
open ps (Ps posOk kidI top)
open spell (Held)
open et
set_option linter.unusedVariables false
set_option linter.unusedSimpArgs false
set_option maxRecDepth 20000
theorem of_name(x:Value)(k:Int)(hk:k=1)(w:World):Calls Tryz.prog 91 #[x,.int .i64 k] w fun e w'=>e= .returned (.func (.func 155) #[x] #[])∧w=w':=by
 subst hk
 have hmf:∀(fn:Fn) (first cap:Array Value) (w:World),(Instr.makeFunc fn first cap).run Tryz.prog w= .ok (.func fn first cap) w:=fun _ _ _ _=>rfl
 go_enter Tryz.func91,Tryz.ntmps91
 go_wp2
 go_ret
 exact⟨rfl,rfl⟩
theorem of_number(x:Value)(k:Int)(hk:k=2)(w:World):Calls Tryz.prog 91 #[x,.int .i64 k] w fun e w'=>e= .returned (.func (.func 141) #[x] #[])∧w=w':=by
 subst hk
 have hmf:∀(fn:Fn) (first cap:Array Value) (w:World),(Instr.makeFunc fn first cap).run Tryz.prog w= .ok (.func fn first cap) w:=fun _ _ _ _=>rfl
 go_enter Tryz.func91,Tryz.ntmps91
 go_wp2
 go_ret
 exact⟨rfl,rfl⟩
theorem of_str(x:Value)(k:Int)(hk:k=3)(w:World):Calls Tryz.prog 91 #[x,.int .i64 k] w fun e w'=>e= .returned (.func (.func 142) #[x] #[])∧w=w':=by
 subst hk
 have hmf:∀(fn:Fn) (first cap:Array Value) (w:World),(Instr.makeFunc fn first cap).run Tryz.prog w= .ok (.func fn first cap) w:=fun _ _ _ _=>rfl
 go_enter Tryz.func91,Tryz.ntmps91
 go_wp2
 go_ret
 exact⟨rfl,rfl⟩
theorem of_ere(x:Value)(k:Int)(hk:k=4)(w:World):Calls Tryz.prog 91 #[x,.int .i64 k] w fun e w'=>e= .returned (.func (.func 143) #[x] #[])∧w=w':=by
 subst hk
 have hmf:∀(fn:Fn) (first cap:Array Value) (w:World),(Instr.makeFunc fn first cap).run Tryz.prog w= .ok (.func fn first cap) w:=fun _ _ _ _=>rfl
 go_enter Tryz.func91,Tryz.ntmps91
 go_wp2
 go_ret
 exact⟨rfl,rfl⟩
theorem of_index(x:Value)(k:Int)(hk:k=5)(w:World):Calls Tryz.prog 91 #[x,.int .i64 k] w fun e w'=>e= .returned (.func (.func 144) #[x] #[])∧w=w':=by
 subst hk
 have hmf:∀(fn:Fn) (first cap:Array Value) (w:World),(Instr.makeFunc fn first cap).run Tryz.prog w= .ok (.func fn first cap) w:=fun _ _ _ _=>rfl
 go_enter Tryz.func91,Tryz.ntmps91
 go_wp2
 go_ret
 exact⟨rfl,rfl⟩
theorem of_field(x:Value)(k:Int)(hk:k=6)(w:World):Calls Tryz.prog 91 #[x,.int .i64 k] w fun e w'=>e= .returned (.func (.func 145) #[x] #[])∧w=w':=by
 subst hk
 have hmf:∀(fn:Fn) (first cap:Array Value) (w:World),(Instr.makeFunc fn first cap).run Tryz.prog w= .ok (.func fn first cap) w:=fun _ _ _ _=>rfl
 go_enter Tryz.func91,Tryz.ntmps91
 go_wp2
 go_ret
 exact⟨rfl,rfl⟩
theorem of_call(x:Value)(k:Int)(hk:k=7)(w:World):Calls Tryz.prog 91 #[x,.int .i64 k] w fun e w'=>e= .returned (.func (.func 146) #[x] #[])∧w=w':=by
 subst hk
 have hmf:∀(fn:Fn) (first cap:Array Value) (w:World),(Instr.makeFunc fn first cap).run Tryz.prog w= .ok (.func fn first cap) w:=fun _ _ _ _=>rfl
 go_enter Tryz.func91,Tryz.ntmps91
 go_wp2
 go_ret
 exact⟨rfl,rfl⟩
theorem of_builtin(x:Value)(k:Int)(hk:k=8)(w:World):Calls Tryz.prog 91 #[x,.int .i64 k] w fun e w'=>e= .returned (.func (.func 147) #[x] #[])∧w=w':=by
 subst hk
 have hmf:∀(fn:Fn) (first cap:Array Value) (w:World),(Instr.makeFunc fn first cap).run Tryz.prog w= .ok (.func fn first cap) w:=fun _ _ _ _=>rfl
 go_enter Tryz.func91,Tryz.ntmps91
 go_wp2
 go_ret
 exact⟨rfl,rfl⟩
theorem of_pre(x:Value)(k:Int)(hk:k=9)(w:World):Calls Tryz.prog 91 #[x,.int .i64 k] w fun e w'=>e= .returned (.func (.func 148) #[x] #[])∧w=w':=by
 subst hk
 have hmf:∀(fn:Fn) (first cap:Array Value) (w:World),(Instr.makeFunc fn first cap).run Tryz.prog w= .ok (.func fn first cap) w:=fun _ _ _ _=>rfl
 go_enter Tryz.func91,Tryz.ntmps91
 go_wp2
 go_ret
 exact⟨rfl,rfl⟩
theorem of_post(x:Value)(k:Int)(hk:k=10)(w:World):Calls Tryz.prog 91 #[x,.int .i64 k] w fun e w'=>e= .returned (.func (.func 149) #[x] #[])∧w=w':=by
 subst hk
 have hmf:∀(fn:Fn) (first cap:Array Value) (w:World),(Instr.makeFunc fn first cap).run Tryz.prog w= .ok (.func fn first cap) w:=fun _ _ _ _=>rfl
 go_enter Tryz.func91,Tryz.ntmps91
 go_wp2
 go_ret
 exact⟨rfl,rfl⟩
theorem of_unary(x:Value)(k:Int)(hk:k=11)(w:World):Calls Tryz.prog 91 #[x,.int .i64 k] w fun e w'=>e= .returned (.func (.func 150) #[x] #[])∧w=w':=by
 subst hk
 have hmf:∀(fn:Fn) (first cap:Array Value) (w:World),(Instr.makeFunc fn first cap).run Tryz.prog w= .ok (.func fn first cap) w:=fun _ _ _ _=>rfl
 go_enter Tryz.func91,Tryz.ntmps91
 go_wp2
 go_ret
 exact⟨rfl,rfl⟩
theorem of_binary(x:Value)(k:Int)(hk:k=12)(w:World):Calls Tryz.prog 91 #[x,.int .i64 k] w fun e w'=>e= .returned (.func (.func 151) #[x] #[])∧w=w':=by
 subst hk
 have hmf:∀(fn:Fn) (first cap:Array Value) (w:World),(Instr.makeFunc fn first cap).run Tryz.prog w= .ok (.func fn first cap) w:=fun _ _ _ _=>rfl
 go_enter Tryz.func91,Tryz.ntmps91
 go_wp2
 go_ret
 exact⟨rfl,rfl⟩
theorem of_in(x:Value)(k:Int)(hk:k=13)(w:World):Calls Tryz.prog 91 #[x,.int .i64 k] w fun e w'=>e= .returned (.func (.func 152) #[x] #[])∧w=w':=by
 subst hk
 have hmf:∀(fn:Fn) (first cap:Array Value) (w:World),(Instr.makeFunc fn first cap).run Tryz.prog w= .ok (.func fn first cap) w:=fun _ _ _ _=>rfl
 go_enter Tryz.func91,Tryz.ntmps91
 go_wp2
 go_ret
 exact⟨rfl,rfl⟩
theorem of_cond(x:Value)(k:Int)(hk:k=14)(w:World):Calls Tryz.prog 91 #[x,.int .i64 k] w fun e w'=>e= .returned (.func (.func 153) #[x] #[])∧w=w':=by
 subst hk
 have hmf:∀(fn:Fn) (first cap:Array Value) (w:World),(Instr.makeFunc fn first cap).run Tryz.prog w= .ok (.func fn first cap) w:=fun _ _ _ _=>rfl
 go_enter Tryz.func91,Tryz.ntmps91
 go_wp2
 go_ret
 exact⟨rfl,rfl⟩
theorem of_assign(x:Value)(k:Int)(hk:k=15)(w:World):Calls Tryz.prog 91 #[x,.int .i64 k] w fun e w'=>e= .returned (.func (.func 154) #[x] #[])∧w=w':=by
 subst hk
 have hmf:∀(fn:Fn) (first cap:Array Value) (w:World),(Instr.makeFunc fn first cap).run Tryz.prog w= .ok (.func fn first cap) w:=fun _ _ _ _=>rfl
 go_enter Tryz.func91,Tryz.ntmps91
 go_wp2
 go_ret
 exact⟨rfl,rfl⟩
set_option maxHeartbeats 1600000 in
theorem un_name{w0:World}{a:Option Addr}{m cap:Nat}{fv:Value}{l:List Nd}{i:Nat}{E U:Nat→Ps→List Tk}(n:Nd)(hc:n.k=1)(hmx:m≤1048576)(hi:i<m)(bl ol:Nat)(ha:a=some ⟨bl,ol,none⟩)(hbl:bl<w0.heap.size)(ak:Option Addr)(ck:Nat)(h5:nd.Five w0 bl (ol+i*5) n ak ck)
  (hv:∀p:Ps,posOk p.l p.d=true→Giv w0 a m cap fv l i n ak p E U):CallE 53 w0 a m cap fv i (fun q=>body E U n q):=by
 subst ha
 intro q hq v ts w hst hl
 have HV:=hid (hv q hq)
 have X0:=Ex.start hst h5 hbl q
 obtain⟨x0,x1,x2,y0,y1,y2,y3,y4,z0,z1,z2,z3,z4⟩:=X0.c
 have HX:=hid X0
 have HS:=hid (hst.alloc (.cells #[.int .i64 q.l,.bool q.d,.bool q.i,.bool q.g,.bool q.s] 26))
 have HG:=hid (show Gr w0.heap.size v v w (w.alloc (.cells #[.int .i64 q.l,.bool q.d,.bool q.i,.bool q.g,.bool q.s] 26))from Gr.quiet ((Below.refl _ _).alloc (Nat.le_refl _) _))
 have HL:=hid hl
 have HC:=hid hc
 have y:(0:Int)≤(i:Int):=by omega
 have j:(i:Int)<(m:Int):=by omega
 clear hl hst hv h5 X0 hc hi hq
 go_enter Tryz.func53,Tryz.ntmps53
 go_wp2_with fail
 refine(of_name _ _ HC.out _).mono ?_
 rintro e w1 ⟨rfl,rfl⟩
 go_wp2_with fail
 refine(m_name n ak ck q _ HC.out HV.out (HS.alloc _) HL.out).mono ?_
 rintro e w2 ⟨rfl,v2,s2,g2⟩
 have S2:=hid s2
 have G2:=hid (HG.trans ((Gr.quiet ((Below.refl _ _).alloc (Nat.le_refl _) _)).trans g2))
 clear s2 g2
 go_wp2
 go_end0
 exact⟨rfl,v2,S2.out,G2.out⟩
set_option maxHeartbeats 1600000 in
theorem un_number{w0:World}{a:Option Addr}{m cap:Nat}{fv:Value}{l:List Nd}{i:Nat}{E U:Nat→Ps→List Tk}(n:Nd)(hc:n.k=2)(hmx:m≤1048576)(hi:i<m)(bl ol:Nat)(ha:a=some ⟨bl,ol,none⟩)(hbl:bl<w0.heap.size)(ak:Option Addr)(ck:Nat)(h5:nd.Five w0 bl (ol+i*5) n ak ck)
  (hv:∀p:Ps,posOk p.l p.d=true→Giv w0 a m cap fv l i n ak p E U):CallE 53 w0 a m cap fv i (fun q=>body E U n q):=by
 subst ha
 intro q hq v ts w hst hl
 have HV:=hid (hv q hq)
 have X0:=Ex.start hst h5 hbl q
 obtain⟨x0,x1,x2,y0,y1,y2,y3,y4,z0,z1,z2,z3,z4⟩:=X0.c
 have HX:=hid X0
 have HS:=hid (hst.alloc (.cells #[.int .i64 q.l,.bool q.d,.bool q.i,.bool q.g,.bool q.s] 26))
 have HG:=hid (show Gr w0.heap.size v v w (w.alloc (.cells #[.int .i64 q.l,.bool q.d,.bool q.i,.bool q.g,.bool q.s] 26))from Gr.quiet ((Below.refl _ _).alloc (Nat.le_refl _) _))
 have HL:=hid hl
 have HC:=hid hc
 have y:(0:Int)≤(i:Int):=by omega
 have j:(i:Int)<(m:Int):=by omega
 clear hl hst hv h5 X0 hc hi hq
 go_enter Tryz.func53,Tryz.ntmps53
 go_wp2_with fail
 refine(of_number _ _ HC.out _).mono ?_
 rintro e w1 ⟨rfl,rfl⟩
 go_wp2_with fail
 refine(m_number n ak ck q _ HC.out HV.out (HS.alloc _) HL.out).mono ?_
 rintro e w2 ⟨rfl,v2,s2,g2⟩
 have S2:=hid s2
 have G2:=hid (HG.trans ((Gr.quiet ((Below.refl _ _).alloc (Nat.le_refl _) _)).trans g2))
 clear s2 g2
 go_wp2
 go_end0
 exact⟨rfl,v2,S2.out,G2.out⟩
set_option maxHeartbeats 1600000 in
theorem un_str{w0:World}{a:Option Addr}{m cap:Nat}{fv:Value}{l:List Nd}{i:Nat}{E U:Nat→Ps→List Tk}(n:Nd)(hc:n.k=3)(hmx:m≤1048576)(hi:i<m)(bl ol:Nat)(ha:a=some ⟨bl,ol,none⟩)(hbl:bl<w0.heap.size)(ak:Option Addr)(ck:Nat)(h5:nd.Five w0 bl (ol+i*5) n ak ck)
  (hv:∀p:Ps,posOk p.l p.d=true→Giv w0 a m cap fv l i n ak p E U):CallE 53 w0 a m cap fv i (fun q=>body E U n q):=by
 subst ha
 intro q hq v ts w hst hl
 have HV:=hid (hv q hq)
 have X0:=Ex.start hst h5 hbl q
 obtain⟨x0,x1,x2,y0,y1,y2,y3,y4,z0,z1,z2,z3,z4⟩:=X0.c
 have HX:=hid X0
 have HS:=hid (hst.alloc (.cells #[.int .i64 q.l,.bool q.d,.bool q.i,.bool q.g,.bool q.s] 26))
 have HG:=hid (show Gr w0.heap.size v v w (w.alloc (.cells #[.int .i64 q.l,.bool q.d,.bool q.i,.bool q.g,.bool q.s] 26))from Gr.quiet ((Below.refl _ _).alloc (Nat.le_refl _) _))
 have HL:=hid hl
 have HC:=hid hc
 have y:(0:Int)≤(i:Int):=by omega
 have j:(i:Int)<(m:Int):=by omega
 clear hl hst hv h5 X0 hc hi hq
 go_enter Tryz.func53,Tryz.ntmps53
 go_wp2_with fail
 refine(of_str _ _ HC.out _).mono ?_
 rintro e w1 ⟨rfl,rfl⟩
 go_wp2_with fail
 refine(m_str n ak ck q _ HC.out HV.out (HS.alloc _) HL.out).mono ?_
 rintro e w2 ⟨rfl,v2,s2,g2⟩
 have S2:=hid s2
 have G2:=hid (HG.trans ((Gr.quiet ((Below.refl _ _).alloc (Nat.le_refl _) _)).trans g2))
 clear s2 g2
 go_wp2
 go_end0
 exact⟨rfl,v2,S2.out,G2.out⟩
set_option maxHeartbeats 1600000 in
theorem un_ere{w0:World}{a:Option Addr}{m cap:Nat}{fv:Value}{l:List Nd}{i:Nat}{E U:Nat→Ps→List Tk}(n:Nd)(hc:n.k=4)(hmx:m≤1048576)(hi:i<m)(bl ol:Nat)(ha:a=some ⟨bl,ol,none⟩)(hbl:bl<w0.heap.size)(ak:Option Addr)(ck:Nat)(h5:nd.Five w0 bl (ol+i*5) n ak ck)
  (hv:∀p:Ps,posOk p.l p.d=true→Giv w0 a m cap fv l i n ak p E U):CallE 53 w0 a m cap fv i (fun q=>body E U n q):=by
 subst ha
 intro q hq v ts w hst hl
 have HV:=hid (hv q hq)
 have X0:=Ex.start hst h5 hbl q
 obtain⟨x0,x1,x2,y0,y1,y2,y3,y4,z0,z1,z2,z3,z4⟩:=X0.c
 have HX:=hid X0
 have HS:=hid (hst.alloc (.cells #[.int .i64 q.l,.bool q.d,.bool q.i,.bool q.g,.bool q.s] 26))
 have HG:=hid (show Gr w0.heap.size v v w (w.alloc (.cells #[.int .i64 q.l,.bool q.d,.bool q.i,.bool q.g,.bool q.s] 26))from Gr.quiet ((Below.refl _ _).alloc (Nat.le_refl _) _))
 have HL:=hid hl
 have HC:=hid hc
 have y:(0:Int)≤(i:Int):=by omega
 have j:(i:Int)<(m:Int):=by omega
 clear hl hst hv h5 X0 hc hi hq
 go_enter Tryz.func53,Tryz.ntmps53
 go_wp2_with fail
 refine(of_ere _ _ HC.out _).mono ?_
 rintro e w1 ⟨rfl,rfl⟩
 go_wp2_with fail
 refine(m_ere n ak ck q _ HC.out HV.out (HS.alloc _) HL.out).mono ?_
 rintro e w2 ⟨rfl,v2,s2,g2⟩
 have S2:=hid s2
 have G2:=hid (HG.trans ((Gr.quiet ((Below.refl _ _).alloc (Nat.le_refl _) _)).trans g2))
 clear s2 g2
 go_wp2
 go_end0
 exact⟨rfl,v2,S2.out,G2.out⟩
set_option maxHeartbeats 1600000 in
theorem un_index{w0:World}{a:Option Addr}{m cap:Nat}{fv:Value}{l:List Nd}{i:Nat}{E U:Nat→Ps→List Tk}(n:Nd)(hc:n.k=5)(hmx:m≤1048576)(hi:i<m)(bl ol:Nat)(ha:a=some ⟨bl,ol,none⟩)(hbl:bl<w0.heap.size)(ak:Option Addr)(ck:Nat)(h5:nd.Five w0 bl (ol+i*5) n ak ck)
  (hv:∀p:Ps,posOk p.l p.d=true→Giv w0 a m cap fv l i n ak p E U):CallE 53 w0 a m cap fv i (fun q=>body E U n q):=by
 subst ha
 intro q hq v ts w hst hl
 have HV:=hid (hv q hq)
 have X0:=Ex.start hst h5 hbl q
 obtain⟨x0,x1,x2,y0,y1,y2,y3,y4,z0,z1,z2,z3,z4⟩:=X0.c
 have HX:=hid X0
 have HS:=hid (hst.alloc (.cells #[.int .i64 q.l,.bool q.d,.bool q.i,.bool q.g,.bool q.s] 26))
 have HG:=hid (show Gr w0.heap.size v v w (w.alloc (.cells #[.int .i64 q.l,.bool q.d,.bool q.i,.bool q.g,.bool q.s] 26))from Gr.quiet ((Below.refl _ _).alloc (Nat.le_refl _) _))
 have HL:=hid hl
 have HC:=hid hc
 have y:(0:Int)≤(i:Int):=by omega
 have j:(i:Int)<(m:Int):=by omega
 clear hl hst hv h5 X0 hc hi hq
 go_enter Tryz.func53,Tryz.ntmps53
 go_wp2_with fail
 refine(of_index _ _ HC.out _).mono ?_
 rintro e w1 ⟨rfl,rfl⟩
 go_wp2_with fail
 refine(m_index n ak ck q _ HC.out HV.out (HS.alloc _) HL.out).mono ?_
 rintro e w2 ⟨rfl,v2,s2,g2⟩
 have S2:=hid s2
 have G2:=hid (HG.trans ((Gr.quiet ((Below.refl _ _).alloc (Nat.le_refl _) _)).trans g2))
 clear s2 g2
 go_wp2
 go_end0
 exact⟨rfl,v2,S2.out,G2.out⟩
set_option maxHeartbeats 1600000 in
theorem un_field{w0:World}{a:Option Addr}{m cap:Nat}{fv:Value}{l:List Nd}{i:Nat}{E U:Nat→Ps→List Tk}(n:Nd)(hc:n.k=6)(hmx:m≤1048576)(hi:i<m)(bl ol:Nat)(ha:a=some ⟨bl,ol,none⟩)(hbl:bl<w0.heap.size)(ak:Option Addr)(ck:Nat)(h5:nd.Five w0 bl (ol+i*5) n ak ck)
  (hv:∀p:Ps,posOk p.l p.d=true→Giv w0 a m cap fv l i n ak p E U):CallE 53 w0 a m cap fv i (fun q=>body E U n q):=by
 subst ha
 intro q hq v ts w hst hl
 have HV:=hid (hv q hq)
 have X0:=Ex.start hst h5 hbl q
 obtain⟨x0,x1,x2,y0,y1,y2,y3,y4,z0,z1,z2,z3,z4⟩:=X0.c
 have HX:=hid X0
 have HS:=hid (hst.alloc (.cells #[.int .i64 q.l,.bool q.d,.bool q.i,.bool q.g,.bool q.s] 26))
 have HG:=hid (show Gr w0.heap.size v v w (w.alloc (.cells #[.int .i64 q.l,.bool q.d,.bool q.i,.bool q.g,.bool q.s] 26))from Gr.quiet ((Below.refl _ _).alloc (Nat.le_refl _) _))
 have HL:=hid hl
 have HC:=hid hc
 have y:(0:Int)≤(i:Int):=by omega
 have j:(i:Int)<(m:Int):=by omega
 clear hl hst hv h5 X0 hc hi hq
 go_enter Tryz.func53,Tryz.ntmps53
 go_wp2_with fail
 refine(of_field _ _ HC.out _).mono ?_
 rintro e w1 ⟨rfl,rfl⟩
 go_wp2_with fail
 refine(m_field n ak ck q _ HC.out HV.out (HS.alloc _) HL.out).mono ?_
 rintro e w2 ⟨rfl,v2,s2,g2⟩
 have S2:=hid s2
 have G2:=hid (HG.trans ((Gr.quiet ((Below.refl _ _).alloc (Nat.le_refl _) _)).trans g2))
 clear s2 g2
 go_wp2
 go_end0
 exact⟨rfl,v2,S2.out,G2.out⟩
set_option maxHeartbeats 1600000 in
theorem un_call{w0:World}{a:Option Addr}{m cap:Nat}{fv:Value}{l:List Nd}{i:Nat}{E U:Nat→Ps→List Tk}(n:Nd)(hc:n.k=7)(hmx:m≤1048576)(hi:i<m)(bl ol:Nat)(ha:a=some ⟨bl,ol,none⟩)(hbl:bl<w0.heap.size)(ak:Option Addr)(ck:Nat)(h5:nd.Five w0 bl (ol+i*5) n ak ck)
  (hv:∀p:Ps,posOk p.l p.d=true→Giv w0 a m cap fv l i n ak p E U):CallE 53 w0 a m cap fv i (fun q=>body E U n q):=by
 subst ha
 intro q hq v ts w hst hl
 have HV:=hid (hv q hq)
 have X0:=Ex.start hst h5 hbl q
 obtain⟨x0,x1,x2,y0,y1,y2,y3,y4,z0,z1,z2,z3,z4⟩:=X0.c
 have HX:=hid X0
 have HS:=hid (hst.alloc (.cells #[.int .i64 q.l,.bool q.d,.bool q.i,.bool q.g,.bool q.s] 26))
 have HG:=hid (show Gr w0.heap.size v v w (w.alloc (.cells #[.int .i64 q.l,.bool q.d,.bool q.i,.bool q.g,.bool q.s] 26))from Gr.quiet ((Below.refl _ _).alloc (Nat.le_refl _) _))
 have HL:=hid hl
 have HC:=hid hc
 have y:(0:Int)≤(i:Int):=by omega
 have j:(i:Int)<(m:Int):=by omega
 clear hl hst hv h5 X0 hc hi hq
 go_enter Tryz.func53,Tryz.ntmps53
 go_wp2_with fail
 refine(of_call _ _ HC.out _).mono ?_
 rintro e w1 ⟨rfl,rfl⟩
 go_wp2_with fail
 refine(m_call n ak ck q _ HC.out HV.out (HS.alloc _) HL.out).mono ?_
 rintro e w2 ⟨rfl,v2,s2,g2⟩
 have S2:=hid s2
 have G2:=hid (HG.trans ((Gr.quiet ((Below.refl _ _).alloc (Nat.le_refl _) _)).trans g2))
 clear s2 g2
 go_wp2
 go_end0
 exact⟨rfl,v2,S2.out,G2.out⟩
set_option maxHeartbeats 1600000 in
theorem un_builtin{w0:World}{a:Option Addr}{m cap:Nat}{fv:Value}{l:List Nd}{i:Nat}{E U:Nat→Ps→List Tk}(n:Nd)(hc:n.k=8)(hmx:m≤1048576)(hi:i<m)(bl ol:Nat)(ha:a=some ⟨bl,ol,none⟩)(hbl:bl<w0.heap.size)(ak:Option Addr)(ck:Nat)(h5:nd.Five w0 bl (ol+i*5) n ak ck)
  (hv:∀p:Ps,posOk p.l p.d=true→Giv w0 a m cap fv l i n ak p E U):CallE 53 w0 a m cap fv i (fun q=>body E U n q):=by
 subst ha
 intro q hq v ts w hst hl
 have HV:=hid (hv q hq)
 have X0:=Ex.start hst h5 hbl q
 obtain⟨x0,x1,x2,y0,y1,y2,y3,y4,z0,z1,z2,z3,z4⟩:=X0.c
 have HX:=hid X0
 have HS:=hid (hst.alloc (.cells #[.int .i64 q.l,.bool q.d,.bool q.i,.bool q.g,.bool q.s] 26))
 have HG:=hid (show Gr w0.heap.size v v w (w.alloc (.cells #[.int .i64 q.l,.bool q.d,.bool q.i,.bool q.g,.bool q.s] 26))from Gr.quiet ((Below.refl _ _).alloc (Nat.le_refl _) _))
 have HL:=hid hl
 have HC:=hid hc
 have y:(0:Int)≤(i:Int):=by omega
 have j:(i:Int)<(m:Int):=by omega
 clear hl hst hv h5 X0 hc hi hq
 go_enter Tryz.func53,Tryz.ntmps53
 go_wp2_with fail
 refine(of_builtin _ _ HC.out _).mono ?_
 rintro e w1 ⟨rfl,rfl⟩
 go_wp2_with fail
 refine(m_builtin n ak ck q _ HC.out HV.out (HS.alloc _) HL.out).mono ?_
 rintro e w2 ⟨rfl,v2,s2,g2⟩
 have S2:=hid s2
 have G2:=hid (HG.trans ((Gr.quiet ((Below.refl _ _).alloc (Nat.le_refl _) _)).trans g2))
 clear s2 g2
 go_wp2
 go_end0
 exact⟨rfl,v2,S2.out,G2.out⟩
set_option maxHeartbeats 1600000 in
theorem un_pre{w0:World}{a:Option Addr}{m cap:Nat}{fv:Value}{l:List Nd}{i:Nat}{E U:Nat→Ps→List Tk}(n:Nd)(hc:n.k=9)(hmx:m≤1048576)(hi:i<m)(bl ol:Nat)(ha:a=some ⟨bl,ol,none⟩)(hbl:bl<w0.heap.size)(ak:Option Addr)(ck:Nat)(h5:nd.Five w0 bl (ol+i*5) n ak ck)
  (hv:∀p:Ps,posOk p.l p.d=true→Giv w0 a m cap fv l i n ak p E U):CallE 53 w0 a m cap fv i (fun q=>body E U n q):=by
 subst ha
 intro q hq v ts w hst hl
 have HV:=hid (hv q hq)
 have X0:=Ex.start hst h5 hbl q
 obtain⟨x0,x1,x2,y0,y1,y2,y3,y4,z0,z1,z2,z3,z4⟩:=X0.c
 have HX:=hid X0
 have HS:=hid (hst.alloc (.cells #[.int .i64 q.l,.bool q.d,.bool q.i,.bool q.g,.bool q.s] 26))
 have HG:=hid (show Gr w0.heap.size v v w (w.alloc (.cells #[.int .i64 q.l,.bool q.d,.bool q.i,.bool q.g,.bool q.s] 26))from Gr.quiet ((Below.refl _ _).alloc (Nat.le_refl _) _))
 have HL:=hid hl
 have HC:=hid hc
 have y:(0:Int)≤(i:Int):=by omega
 have j:(i:Int)<(m:Int):=by omega
 clear hl hst hv h5 X0 hc hi hq
 go_enter Tryz.func53,Tryz.ntmps53
 go_wp2_with fail
 refine(of_pre _ _ HC.out _).mono ?_
 rintro e w1 ⟨rfl,rfl⟩
 go_wp2_with fail
 refine(m_pre n ak ck q _ HC.out HV.out (HS.alloc _) HL.out).mono ?_
 rintro e w2 ⟨rfl,v2,s2,g2⟩
 have S2:=hid s2
 have G2:=hid (HG.trans ((Gr.quiet ((Below.refl _ _).alloc (Nat.le_refl _) _)).trans g2))
 clear s2 g2
 go_wp2
 go_end0
 exact⟨rfl,v2,S2.out,G2.out⟩
set_option maxHeartbeats 1600000 in
theorem un_post{w0:World}{a:Option Addr}{m cap:Nat}{fv:Value}{l:List Nd}{i:Nat}{E U:Nat→Ps→List Tk}(n:Nd)(hc:n.k=10)(hmx:m≤1048576)(hi:i<m)(bl ol:Nat)(ha:a=some ⟨bl,ol,none⟩)(hbl:bl<w0.heap.size)(ak:Option Addr)(ck:Nat)(h5:nd.Five w0 bl (ol+i*5) n ak ck)
  (hv:∀p:Ps,posOk p.l p.d=true→Giv w0 a m cap fv l i n ak p E U):CallE 53 w0 a m cap fv i (fun q=>body E U n q):=by
 subst ha
 intro q hq v ts w hst hl
 have HV:=hid (hv q hq)
 have X0:=Ex.start hst h5 hbl q
 obtain⟨x0,x1,x2,y0,y1,y2,y3,y4,z0,z1,z2,z3,z4⟩:=X0.c
 have HX:=hid X0
 have HS:=hid (hst.alloc (.cells #[.int .i64 q.l,.bool q.d,.bool q.i,.bool q.g,.bool q.s] 26))
 have HG:=hid (show Gr w0.heap.size v v w (w.alloc (.cells #[.int .i64 q.l,.bool q.d,.bool q.i,.bool q.g,.bool q.s] 26))from Gr.quiet ((Below.refl _ _).alloc (Nat.le_refl _) _))
 have HL:=hid hl
 have HC:=hid hc
 have y:(0:Int)≤(i:Int):=by omega
 have j:(i:Int)<(m:Int):=by omega
 clear hl hst hv h5 X0 hc hi hq
 go_enter Tryz.func53,Tryz.ntmps53
 go_wp2_with fail
 refine(of_post _ _ HC.out _).mono ?_
 rintro e w1 ⟨rfl,rfl⟩
 go_wp2_with fail
 refine(m_post n ak ck q _ HC.out HV.out (HS.alloc _) HL.out).mono ?_
 rintro e w2 ⟨rfl,v2,s2,g2⟩
 have S2:=hid s2
 have G2:=hid (HG.trans ((Gr.quiet ((Below.refl _ _).alloc (Nat.le_refl _) _)).trans g2))
 clear s2 g2
 go_wp2
 go_end0
 exact⟨rfl,v2,S2.out,G2.out⟩
set_option maxHeartbeats 1600000 in
theorem un_unary{w0:World}{a:Option Addr}{m cap:Nat}{fv:Value}{l:List Nd}{i:Nat}{E U:Nat→Ps→List Tk}(n:Nd)(hc:n.k=11)(hmx:m≤1048576)(hi:i<m)(bl ol:Nat)(ha:a=some ⟨bl,ol,none⟩)(hbl:bl<w0.heap.size)(ak:Option Addr)(ck:Nat)(h5:nd.Five w0 bl (ol+i*5) n ak ck)
  (hv:∀p:Ps,posOk p.l p.d=true→Giv w0 a m cap fv l i n ak p E U):CallE 53 w0 a m cap fv i (fun q=>body E U n q):=by
 subst ha
 intro q hq v ts w hst hl
 have HV:=hid (hv q hq)
 have X0:=Ex.start hst h5 hbl q
 obtain⟨x0,x1,x2,y0,y1,y2,y3,y4,z0,z1,z2,z3,z4⟩:=X0.c
 have HX:=hid X0
 have HS:=hid (hst.alloc (.cells #[.int .i64 q.l,.bool q.d,.bool q.i,.bool q.g,.bool q.s] 26))
 have HG:=hid (show Gr w0.heap.size v v w (w.alloc (.cells #[.int .i64 q.l,.bool q.d,.bool q.i,.bool q.g,.bool q.s] 26))from Gr.quiet ((Below.refl _ _).alloc (Nat.le_refl _) _))
 have HL:=hid hl
 have HC:=hid hc
 have y:(0:Int)≤(i:Int):=by omega
 have j:(i:Int)<(m:Int):=by omega
 clear hl hst hv h5 X0 hc hi hq
 go_enter Tryz.func53,Tryz.ntmps53
 go_wp2_with fail
 refine(of_unary _ _ HC.out _).mono ?_
 rintro e w1 ⟨rfl,rfl⟩
 go_wp2_with fail
 refine(m_unary n ak ck q _ HC.out HV.out (HS.alloc _) HL.out).mono ?_
 rintro e w2 ⟨rfl,v2,s2,g2⟩
 have S2:=hid s2
 have G2:=hid (HG.trans ((Gr.quiet ((Below.refl _ _).alloc (Nat.le_refl _) _)).trans g2))
 clear s2 g2
 go_wp2
 go_end0
 exact⟨rfl,v2,S2.out,G2.out⟩
set_option maxHeartbeats 1600000 in
theorem un_binary{w0:World}{a:Option Addr}{m cap:Nat}{fv:Value}{l:List Nd}{i:Nat}{E U:Nat→Ps→List Tk}(n:Nd)(hc:n.k=12)(hmx:m≤1048576)(hi:i<m)(bl ol:Nat)(ha:a=some ⟨bl,ol,none⟩)(hbl:bl<w0.heap.size)(ak:Option Addr)(ck:Nat)(h5:nd.Five w0 bl (ol+i*5) n ak ck)
  (hv:∀p:Ps,posOk p.l p.d=true→Giv w0 a m cap fv l i n ak p E U):CallE 53 w0 a m cap fv i (fun q=>body E U n q):=by
 subst ha
 intro q hq v ts w hst hl
 have HV:=hid (hv q hq)
 have X0:=Ex.start hst h5 hbl q
 obtain⟨x0,x1,x2,y0,y1,y2,y3,y4,z0,z1,z2,z3,z4⟩:=X0.c
 have HX:=hid X0
 have HS:=hid (hst.alloc (.cells #[.int .i64 q.l,.bool q.d,.bool q.i,.bool q.g,.bool q.s] 26))
 have HG:=hid (show Gr w0.heap.size v v w (w.alloc (.cells #[.int .i64 q.l,.bool q.d,.bool q.i,.bool q.g,.bool q.s] 26))from Gr.quiet ((Below.refl _ _).alloc (Nat.le_refl _) _))
 have HL:=hid hl
 have HC:=hid hc
 have y:(0:Int)≤(i:Int):=by omega
 have j:(i:Int)<(m:Int):=by omega
 clear hl hst hv h5 X0 hc hi hq
 go_enter Tryz.func53,Tryz.ntmps53
 go_wp2_with fail
 refine(of_binary _ _ HC.out _).mono ?_
 rintro e w1 ⟨rfl,rfl⟩
 go_wp2_with fail
 refine(m_binary n ak ck q _ HC.out HV.out (HS.alloc _) HL.out).mono ?_
 rintro e w2 ⟨rfl,v2,s2,g2⟩
 have S2:=hid s2
 have G2:=hid (HG.trans ((Gr.quiet ((Below.refl _ _).alloc (Nat.le_refl _) _)).trans g2))
 clear s2 g2
 go_wp2
 go_end0
 exact⟨rfl,v2,S2.out,G2.out⟩
set_option maxHeartbeats 1600000 in
theorem un_in{w0:World}{a:Option Addr}{m cap:Nat}{fv:Value}{l:List Nd}{i:Nat}{E U:Nat→Ps→List Tk}(n:Nd)(hc:n.k=13)(hmx:m≤1048576)(hi:i<m)(bl ol:Nat)(ha:a=some ⟨bl,ol,none⟩)(hbl:bl<w0.heap.size)(ak:Option Addr)(ck:Nat)(h5:nd.Five w0 bl (ol+i*5) n ak ck)
  (hv:∀p:Ps,posOk p.l p.d=true→Giv w0 a m cap fv l i n ak p E U):CallE 53 w0 a m cap fv i (fun q=>body E U n q):=by
 subst ha
 intro q hq v ts w hst hl
 have HV:=hid (hv q hq)
 have X0:=Ex.start hst h5 hbl q
 obtain⟨x0,x1,x2,y0,y1,y2,y3,y4,z0,z1,z2,z3,z4⟩:=X0.c
 have HX:=hid X0
 have HS:=hid (hst.alloc (.cells #[.int .i64 q.l,.bool q.d,.bool q.i,.bool q.g,.bool q.s] 26))
 have HG:=hid (show Gr w0.heap.size v v w (w.alloc (.cells #[.int .i64 q.l,.bool q.d,.bool q.i,.bool q.g,.bool q.s] 26))from Gr.quiet ((Below.refl _ _).alloc (Nat.le_refl _) _))
 have HL:=hid hl
 have HC:=hid hc
 have y:(0:Int)≤(i:Int):=by omega
 have j:(i:Int)<(m:Int):=by omega
 clear hl hst hv h5 X0 hc hi hq
 go_enter Tryz.func53,Tryz.ntmps53
 go_wp2_with fail
 refine(of_in _ _ HC.out _).mono ?_
 rintro e w1 ⟨rfl,rfl⟩
 go_wp2_with fail
 refine(m_in n ak ck q _ HC.out HV.out (HS.alloc _) HL.out).mono ?_
 rintro e w2 ⟨rfl,v2,s2,g2⟩
 have S2:=hid s2
 have G2:=hid (HG.trans ((Gr.quiet ((Below.refl _ _).alloc (Nat.le_refl _) _)).trans g2))
 clear s2 g2
 go_wp2
 go_end0
 exact⟨rfl,v2,S2.out,G2.out⟩
set_option maxHeartbeats 1600000 in
theorem un_cond{w0:World}{a:Option Addr}{m cap:Nat}{fv:Value}{l:List Nd}{i:Nat}{E U:Nat→Ps→List Tk}(n:Nd)(hc:n.k=14)(hmx:m≤1048576)(hi:i<m)(bl ol:Nat)(ha:a=some ⟨bl,ol,none⟩)(hbl:bl<w0.heap.size)(ak:Option Addr)(ck:Nat)(h5:nd.Five w0 bl (ol+i*5) n ak ck)
  (hv:∀p:Ps,posOk p.l p.d=true→Giv w0 a m cap fv l i n ak p E U):CallE 53 w0 a m cap fv i (fun q=>body E U n q):=by
 subst ha
 intro q hq v ts w hst hl
 have HV:=hid (hv q hq)
 have X0:=Ex.start hst h5 hbl q
 obtain⟨x0,x1,x2,y0,y1,y2,y3,y4,z0,z1,z2,z3,z4⟩:=X0.c
 have HX:=hid X0
 have HS:=hid (hst.alloc (.cells #[.int .i64 q.l,.bool q.d,.bool q.i,.bool q.g,.bool q.s] 26))
 have HG:=hid (show Gr w0.heap.size v v w (w.alloc (.cells #[.int .i64 q.l,.bool q.d,.bool q.i,.bool q.g,.bool q.s] 26))from Gr.quiet ((Below.refl _ _).alloc (Nat.le_refl _) _))
 have HL:=hid hl
 have HC:=hid hc
 have y:(0:Int)≤(i:Int):=by omega
 have j:(i:Int)<(m:Int):=by omega
 clear hl hst hv h5 X0 hc hi hq
 go_enter Tryz.func53,Tryz.ntmps53
 go_wp2_with fail
 refine(of_cond _ _ HC.out _).mono ?_
 rintro e w1 ⟨rfl,rfl⟩
 go_wp2_with fail
 refine(m_cond n ak ck q _ HC.out HV.out (HS.alloc _) HL.out).mono ?_
 rintro e w2 ⟨rfl,v2,s2,g2⟩
 have S2:=hid s2
 have G2:=hid (HG.trans ((Gr.quiet ((Below.refl _ _).alloc (Nat.le_refl _) _)).trans g2))
 clear s2 g2
 go_wp2
 go_end0
 exact⟨rfl,v2,S2.out,G2.out⟩
set_option maxHeartbeats 1600000 in
theorem un_assign{w0:World}{a:Option Addr}{m cap:Nat}{fv:Value}{l:List Nd}{i:Nat}{E U:Nat→Ps→List Tk}(n:Nd)(hc:n.k=15)(hmx:m≤1048576)(hi:i<m)(bl ol:Nat)(ha:a=some ⟨bl,ol,none⟩)(hbl:bl<w0.heap.size)(ak:Option Addr)(ck:Nat)(h5:nd.Five w0 bl (ol+i*5) n ak ck)
  (hv:∀p:Ps,posOk p.l p.d=true→Giv w0 a m cap fv l i n ak p E U):CallE 53 w0 a m cap fv i (fun q=>body E U n q):=by
 subst ha
 intro q hq v ts w hst hl
 have HV:=hid (hv q hq)
 have X0:=Ex.start hst h5 hbl q
 obtain⟨x0,x1,x2,y0,y1,y2,y3,y4,z0,z1,z2,z3,z4⟩:=X0.c
 have HX:=hid X0
 have HS:=hid (hst.alloc (.cells #[.int .i64 q.l,.bool q.d,.bool q.i,.bool q.g,.bool q.s] 26))
 have HG:=hid (show Gr w0.heap.size v v w (w.alloc (.cells #[.int .i64 q.l,.bool q.d,.bool q.i,.bool q.g,.bool q.s] 26))from Gr.quiet ((Below.refl _ _).alloc (Nat.le_refl _) _))
 have HL:=hid hl
 have HC:=hid hc
 have y:(0:Int)≤(i:Int):=by omega
 have j:(i:Int)<(m:Int):=by omega
 clear hl hst hv h5 X0 hc hi hq
 go_enter Tryz.func53,Tryz.ntmps53
 go_wp2_with fail
 refine(of_assign _ _ HC.out _).mono ?_
 rintro e w1 ⟨rfl,rfl⟩
 go_wp2_with fail
 refine(m_assign n ak ck q _ HC.out HV.out (HS.alloc _) HL.out).mono ?_
 rintro e w2 ⟨rfl,v2,s2,g2⟩
 have S2:=hid s2
 have G2:=hid (HG.trans ((Gr.quiet ((Below.refl _ _).alloc (Nat.le_refl _) _)).trans g2))
 clear s2 g2
 go_wp2
 go_end0
 exact⟨rfl,v2,S2.out,G2.out⟩
theorem un_any{w0:World}{a:Option Addr}{m cap:Nat}{fv:Value}{l:List Nd}{i:Nat}{E U:Nat→Ps→List Tk}(n:Nd)(hg:et.Good l i n)(hmx:m≤1048576)(hi:i<m)(bl ol:Nat)(ha:a=some ⟨bl,ol,none⟩)(hbl:bl<w0.heap.size)(ak:Option Addr)(ck:Nat)(h5:nd.Five w0 bl (ol+i*5) n ak ck)
  (hv:∀p:Ps,posOk p.l p.d=true→Giv w0 a m cap fv l i n ak p E U):CallE 53 w0 a m cap fv i (fun q=>body E U n q):=by
 have hr:=expr_range hg.kind
 by_cases c1:n.k=1
 ·exact un_name n c1 hmx hi bl ol ha hbl ak ck h5 hv
 by_cases c2:n.k=2
 ·exact un_number n c2 hmx hi bl ol ha hbl ak ck h5 hv
 by_cases c3:n.k=3
 ·exact un_str n c3 hmx hi bl ol ha hbl ak ck h5 hv
 by_cases c4:n.k=4
 ·exact un_ere n c4 hmx hi bl ol ha hbl ak ck h5 hv
 by_cases c5:n.k=5
 ·exact un_index n c5 hmx hi bl ol ha hbl ak ck h5 hv
 by_cases c6:n.k=6
 ·exact un_field n c6 hmx hi bl ol ha hbl ak ck h5 hv
 by_cases c7:n.k=7
 ·exact un_call n c7 hmx hi bl ol ha hbl ak ck h5 hv
 by_cases c8:n.k=8
 ·exact un_builtin n c8 hmx hi bl ol ha hbl ak ck h5 hv
 by_cases c9:n.k=9
 ·exact un_pre n c9 hmx hi bl ol ha hbl ak ck h5 hv
 by_cases c10:n.k=10
 ·exact un_post n c10 hmx hi bl ol ha hbl ak ck h5 hv
 by_cases c11:n.k=11
 ·exact un_unary n c11 hmx hi bl ol ha hbl ak ck h5 hv
 by_cases c12:n.k=12
 ·exact un_binary n c12 hmx hi bl ol ha hbl ak ck h5 hv
 by_cases c13:n.k=13
 ·exact un_in n c13 hmx hi bl ol ha hbl ak ck h5 hv
 by_cases c14:n.k=14
 ·exact un_cond n c14 hmx hi bl ol ha hbl ak ck h5 hv
 exact un_assign n (by omega) hmx hi bl ol ha hbl ak ck h5 hv
theorem all_un{w0:World}{a:Option Addr}{cap:Nat}{fv:Value}{l:List Nd}{enc:Nd→Ps→Bool}(ht:rt.treeOk l=true)(hmx:l.length≤1048576)(hh:Held w0)(hc:nd.Lies w0.heap.size w0 a l)
  (hE:∀(U:Nat→Ps→List Tk) (i:Nat) (n:Nd),i<l.length→l.getD i default=n→CallE 53 w0 a l.length cap fv i (U i)→CallE 27 w0 a l.length cap fv i (par enc l U i)):
  ∀(f i:Nat),i<f→i<l.length→rt.isExpr (l.getD i default).k=true→CallE 53 w0 a l.length cap fv i (un enc l f i):=by
 intro f
 induction f with
 |zero=>intro i hi;omega
 |succ f ih=>
  intro i hi hl hk
  obtain⟨n,hn⟩:∃n,l.getD i default=n:=⟨_,rfl⟩
  rw[hn]at hk
  have g:=et.Good.at ht hl hn hk
  obtain⟨bl,ol,ha,hbl,hnode⟩:=nd.lies_at hc hl
  obtain⟨ak,ck,h5,hik⟩:=hnode i hl
  rw[←getD_at hl,hn]at h5 hik
  have e:un enc l (f+1) i=fun q=>body (ex enc l f) (un enc l f) n q:=by
   funext q
   rw[un_succ,hn]
  rw[e]
  refine un_any n g hmx hl bl ol ha hbl ak ck h5 fun p hp=>⟨hh,g,hik,hp,fun K hK=> ?_,fun h0=> ?_⟩
  ·obtain⟨k1,k2,k3⟩:=g.kids K hK
   exact hE (un enc l f) (et.kd n K) _ (by omega) rfl (ih (et.kd n K) (by omega) (by omega) k3)
  ·obtain⟨k1,k2,k3⟩:=g.kids 0 h0
   exact ih (et.kd n 0) (by omega) (by omega) k3
end Go.Proofs.YtnoagleifffkcaaGreatDoor.tw

namespace Go.Proofs.YtnoagleifffkcaaGreatDoor.tw
open Lib (hid)
open Go.ChangeShapes Go.WideShapes Go.ChangeAt Go.RowKit
open tk (Tk)
open own
open nd (Nd Ints)
open ps (Ps posOk kidI top)
open spell (Held)
open et
set_option linter.unusedVariables false
set_option linter.unusedSimpArgs false
set_option maxRecDepth 20000
def etoks(l:List Nd)(p:Ps):List Tk:=if rt.exprOk l=true∧posOk p.l p.d=true then ex mis l l.length (l.length-1) p else[]
def ftoks(l:List Nd):List Tk:=if rt.exprOk l=true then ex full l l.length (l.length-1) top else[]
def Out(T:List Tk)(w:World)(e:Ending)(w':World):Prop:=∃v,e= .returned v∧Below w.heap.size w w'∧own.Own w.heap.size v T w'
theorem expr_parts{l:List Nd}(h:rt.exprOk l=true):rt.treeOk l=true∧0<l.length∧rt.isExpr (l.getD (l.length-1) default).k=true:=by
 unfold rt.exprOk at h
 rw[Bool.and_eq_true]at h
 refine⟨h.1, ?_,h.2⟩
 have:=(nd.shape_yes (tree_parts h.1).1).1
 omega
theorem etoks_len(l:List Nd)(p:Ps):(etoks l p).length≤3200:=by
 unfold etoks
 split
 ·next h=>
  obtain⟨h1,h2,h3⟩:=expr_parts h.1
  exact Nat.le_trans (ex_len (f:=l.length) (i:=l.length-1) h1 (by omega) (by omega) h3) (by decide)
 ·simp
set_option maxHeartbeats 1600000 in
theorem impl_ExprTokens(l:List Nd)(a:Option Addr)(cap:Nat)(p:Ps)(w:World)(hn:l.length≤1048576)(hk:∀t∈l,t.kids.length≤1048576)(hs:∀t∈l,t.s.size≤1048576∧t.t.size≤1048576)(hc:nd.Lies w.heap.size w a l)(hh:Held w):
  Calls Tryz.prog 8 #[.slice a l.length cap,.agg #[.int .i64 p.l,.bool p.d,.bool p.i,.bool p.g,.bool p.s]] w (Out (etoks l p) w):=by
 have HC:=hid hc
 have HN:=hid hn
 have HH:=hid hh
 have HK:=hid hk
 have HS:=hid hs
 have j:=hid (show Below w.heap.size w (w.alloc (.cells #[.int .i64 p.l,.bool p.d,.bool p.i,.bool p.g,.bool p.s] 26))from((Below.refl w.heap.size w).alloc (Nat.le_refl _) _))
 clear hc hh hk hs
 cases hx:rt.exprOk l
 ·have HE:=hid (show etoks l p=[] by unfold etoks;rw[if_neg (by simp[hx])])
  have HX:=hid hx
  go_enter Tryz.func8,Tryz.ntmps8
  go_wp2_with fail
  refine(rt.impl_expr l a cap _ HN.out HK.out HS.out (HC.on j.out (Nat.le_refl _)) (HH.below j.out)).mono ?_
  rw[HX.out]
  rintro e w1 ⟨rfl,b1⟩
  have B1:=hid (j.trans (b1.mono j.size))
  clear b1
  go_wp2
  go_ret
  refine⟨.slice none 0 0,rfl,B1.out, ?_⟩
  rw[HE.out]
  exact own.Own.nil _ _
 have HX:=hid hx
 cases hp:posOk p.l p.d
 ·have HE:=hid (show etoks l p=[] by unfold etoks;rw[if_neg (by simp[hp])])
  have HP:=hid hp
  have HZ:=hid (show∀w1,Below (w.alloc (.cells #[.int .i64 p.l,.bool p.d,.bool p.i,.bool p.g,.bool p.s] 26)).heap.size (w.alloc (.cells #[.int .i64 p.l,.bool p.d,.bool p.i,.bool p.g,.bool p.s] 26)) w1→w1.cell? ⟨w.heap.size,0,none⟩=some (.int .i64 p.l)∧w1.cell? ⟨w.heap.size,1,none⟩=some (.bool p.d)∧w1.cell? ⟨w.heap.size,2,none⟩=some (.bool p.i)∧w1.cell? ⟨w.heap.size,3,none⟩=some (.bool p.g)∧w1.cell? ⟨w.heap.size,4,none⟩=some (.bool p.s)from fun w1 hb=>by
   have y:=(hb.block w.heap.size (by simp)).trans (heap_alloc_new w (.cells #[.int .i64 p.l,.bool p.d,.bool p.i,.bool p.g,.bool p.s] 26))
   exact⟨by rw[cell_of_row _ _ 0 _ _ _ y];rfl,by rw[cell_of_row _ _ 1 _ _ _ y];rfl,by rw[cell_of_row _ _ 2 _ _ _ y];rfl,by rw[cell_of_row _ _ 3 _ _ _ y];rfl,by rw[cell_of_row _ _ 4 _ _ _ y];rfl⟩)
  clear hx hp
  go_enter Tryz.func8,Tryz.ntmps8
  go_wp2_with fail
  refine(rt.impl_expr l a cap _ HN.out HK.out HS.out (HC.on j.out (Nat.le_refl _)) (HH.below j.out)).mono ?_
  rw[HX.out]
  rintro e w1 ⟨rfl,b1⟩
  have B1:=hid (j.trans (b1.mono j.size))
  obtain⟨p0,p1,p2,p3,p4⟩:=HZ.out w1 b1
  clear b1
  go_wp2_with fail
  refine(ps.impl_ok p.l p.d p.i p.g p.s _).mono ?_
  rw[HP.out]
  rintro e w2 ⟨rfl,b2⟩
  have B2:=hid (B1.trans (b2.mono B1.size))
  clear b2
  go_wp2
  go_ret
  refine⟨.slice none 0 0,rfl,B2.out, ?_⟩
  rw[HE.out]
  exact own.Own.nil _ _
 have HE:=hid (show etoks l p=ex mis l l.length (l.length-1) p by unfold etoks;rw[if_pos ⟨hx,hp⟩])
 have HX:=hid hx
 obtain⟨ht,h0,hlast⟩:=expr_parts hx
 have HLEN:=hid (show([]:List Tk).length+(ex mis l l.length (l.length-1) p).length≤1048576 by have:=ex_len (enc:=mis) (f:=l.length) (p:=p) ht (by omega) (by omega) hlast;simp;omega)
 have HALL:=hid (show∀w0:World,Held w0→nd.Lies w0.heap.size w0 a l→CallE 27 w0 a l.length cap (.func (.func 26) #[] #[]) (l.length-1) (ex mis l l.length (l.length-1))from fun w0 hh hc=>
  have hEx:∀(U:Nat→Ps→List Tk) (i:Nat) (n:Nd),i<l.length→l.getD i default=n→CallE 53 w0 a l.length cap (.func (.func 26) #[] #[]) i (U i)→CallE 27 w0 a l.length cap (.func (.func 26) #[] #[]) i (par mis l U i):=fun U i n hi hn hU=>expr_mis i n hh rfl HN.out hi hn hc hU
  hEx _ _ _ (by omega) rfl (all_un ht HN.out hh hc hEx l.length (l.length-1) (by omega) (by omega) hlast))
 have HST:=hid (show∀w0:World,St w0 a l.length cap (.func (.func 26) #[] #[]) (.slice none 0 0) [] (w0.alloc (.cells #[.slice a l.length cap,(.func (.func 26) #[] #[]),.slice none 0 0] 52))from fun w0=>⟨(Below.refl _ _).alloc (Nat.le_refl _) _,heap_alloc_new w0 _,own.Own.nil _ _⟩)
 obtain⟨N,hN⟩:∃N,l.length=N:=⟨_,rfl⟩
 obtain⟨k,hk⟩:∃k,N=k+1:=⟨N-1,by omega⟩
 have HPOS:=hid (show posOk p.l p.d=true from hp)
 have HEX:=hid (show∀w1,w1.heap.size≥0→nd.Lies w1.heap.size w1 a l→Held w1→Calls Tryz.prog 24 #[.slice a l.length cap] w1 fun e w'=>e= .returned (.bool true)∧Below w1.heap.size w1 w' from fun w1 _ h1 h2=>(rt.impl_expr l a cap w1 HN.out HK.out HS.out h1 h2).mono fun e w' h=>by rw[HX.out]at h;exact h)
 rw[hN]at HALL HST HEX hn HLEN⊢
 have hkk:N-1=k:=by omega
 rw[hkk]at HALL HLEN
 have HKE:=hid (show N-1=k from hkk)
 have HNE:=hid hN
 have HCALL:=hid (show∀w0:World,Held w0→nd.Lies w0.heap.size w0 a l→∀(v:Value) (ts:List Tk) (w:World),St w0 a N cap (.func (.func 26) #[] #[]) v ts w→ts.length+(ex mis l N k p).length≤1048576→Calls Tryz.prog 27 #[.pointer (some ⟨w0.heap.size,0,none⟩),.int .i64 ((N:Int)-1),.agg #[.int .i64 p.l,.bool p.d,.bool p.i,.bool p.g,.bool p.s]] w (Put w0 a N cap (.func (.func 26) #[] #[]) v ts (ex mis l N k p) w)from fun w0 hh hc v ts w hst hl=>by
  have:=HALL.out w0 hh hc p HPOS.out v ts w hst hl
  rw[show((k:Nat):Int)=(N:Int)-1 by omega]at this
  exact this)
 have I:(1:Int)≤(N:Int):=by omega
 have HP:=hid hp
 have HZ:=hid (show∀w1,Below (w.alloc (.cells #[.int .i64 p.l,.bool p.d,.bool p.i,.bool p.g,.bool p.s] 26)).heap.size (w.alloc (.cells #[.int .i64 p.l,.bool p.d,.bool p.i,.bool p.g,.bool p.s] 26)) w1→w1.cell? ⟨w.heap.size,0,none⟩=some (.int .i64 p.l)∧w1.cell? ⟨w.heap.size,1,none⟩=some (.bool p.d)∧w1.cell? ⟨w.heap.size,2,none⟩=some (.bool p.i)∧w1.cell? ⟨w.heap.size,3,none⟩=some (.bool p.g)∧w1.cell? ⟨w.heap.size,4,none⟩=some (.bool p.s)from fun w1 hb=>by
  have y:=(hb.block w.heap.size (by simp)).trans (heap_alloc_new w (.cells #[.int .i64 p.l,.bool p.d,.bool p.i,.bool p.g,.bool p.s] 26))
  exact⟨by rw[cell_of_row _ _ 0 _ _ _ y];rfl,by rw[cell_of_row _ _ 1 _ _ _ y];rfl,by rw[cell_of_row _ _ 2 _ _ _ y];rfl,by rw[cell_of_row _ _ 3 _ _ _ y];rfl,by rw[cell_of_row _ _ 4 _ _ _ y];rfl⟩)
 clear hx ht h0 hlast hN hk hkk hp
 go_enter Tryz.func8,Tryz.ntmps8
 go_wp2_with fail
 refine(HEX.out _ (Nat.zero_le _) (HC.on j.out (Nat.le_refl _)) (HH.below j.out)).mono ?_
 rintro e w1 ⟨rfl,b1⟩
 have B1:=hid (j.trans (b1.mono j.size))
 obtain⟨p0,p1,p2,p3,p4⟩:=HZ.out w1 b1
 have F:=hid b1
 clear b1
 go_wp2_with fail
 refine(ps.impl_ok p.l p.d p.i p.g p.s _).mono ?_
 rw[HP.out]
 rintro e w2 ⟨rfl,b2⟩
 have B2:=hid (B1.trans (b2.mono B1.size))
 have G:=hid (HZ.out _ ((F.trans (b2.mono F.size)).alloc (Nat.le_trans F.size b2.size) (.cells #[.slice a N cap,(.func (.func 26) #[] #[]),.slice none 0 0] 52)))
 obtain⟨q0,q1,q2,q3,q4⟩:=G.out
 clear b2 p0 p1 p2 p3 p4
 have ST:=hid (HST.out w2)
 obtain⟨cW,hcW⟩:∃cW,cW=w2:=⟨_,rfl⟩
 go_wp2_with fail
 refine(HCALL.out w2 (HH.below B2.out) (HC.on B2.out (Nat.le_refl _)) _ _ _ ST.out HLEN.out).mono ?_
 rintro e w4 ⟨rfl,v4,s4,g4⟩
 obtain⟨z0,z1,z2⟩:=s4.c
 have S4:=hid s4
 clear s4 g4
 go_wp2
 go_ret
 refine⟨v4,rfl,B2.trans (S4.bel.mono B2.size), ?_⟩
 rw[HE.out,HNE.out,HKE.out]
 have:=S4.own
 rw[List.nil_append]at this
 exact this.up (Nat.le_succ_of_le B2.size)
end Go.Proofs.YtnoagleifffkcaaGreatDoor.tw
