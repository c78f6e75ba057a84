/- A part of the proof; no condition of its own. -/
import Derived.Test.YtebjmdpkobhcbaaGreatDoorYGPa
import Derived.Deep.CutRange
import Derived.Deep.DeepCutAuto
namespace Go.Proofs.YtebjmdpkobhcbaaGreatDoor.pr
open Lib (hid)
open Go.ChangeShapes Go.WideShapes Go.ChangeAt Go.RowKit
open tk (Tk)
open nd (Nd PT KidV IBlk OwnI shN makeT)
open ps (Ps B5 posOk kidI top)
open pe
set_option linter.unusedVariables false
set_option linter.unusedSimpArgs false
set_option maxRecDepth 20000
structure Fy(w0:World)(a:Option Addr)(n cap:Nat)(X:Nat→Prop)(gR:Nat)(v0:Value)(z0:List (Nd×Value))(r0:Nat→Nat)(ws:World)(i:Nat)(v:Value)(z:List (Nd×Value))(r:Nat→Nat)(w:World):Prop where
 st:St w0 a n cap i v z r w
 tot:Ext X v0 z0 r0 ws v z r w
 rb:Mb X w0.heap.size gR #[.int .i64 0,.bool false] 82 v z r w
 ge:ws.heap.size≤gR
section
variable {w0:World} {a:Option Addr} {n cap:Nat} {X:Nat→Prop} {gR:Nat} {v0:Value} {z0:List (Nd×Value)} {r0:Nat→Nat} {ws:World} {i i':Nat} {v v':Value} {z z':List (Nd×Value)} {r r':Nat→Nat} {w w':World}
theorem Fy.go(h:Fy w0 a n cap X gR v0 z0 r0 ws i v z r w)(s:St w0 a n cap i' v' z' r' w')(e:Ext X v z r w v' z' r' w'):Fy w0 a n cap X gR v0 z0 r0 ws i' v' z' r' w':=⟨s,h.tot.trans e,h.rb.ext e,h.ge⟩
theorem Fy.quiet(h:Fy w0 a n cap X gR v0 z0 r0 ws i v z r w)(b:Below w.heap.size w w'):Fy w0 a n cap X gR v0 z0 r0 ws i v z r w':=h.go (h.st.keep b) (Ext.of (Gr.quiet b))
theorem Fy.take(h:Fy w0 a n cap X gR v0 z0 r0 ws i v z r w)(hX:X w0.heap.size)(s:St w0 a n cap i' v z r w')(e:Gr (X0 w0.heap.size) v v w w'):Fy w0 a n cap X gR v0 z0 r0 ws i' v z r w':=
 h.go s (Ext.of (e.wide (fun k _ hk=>by rw[show k=w0.heap.size from hk];exact hX)))
theorem Fy.at(h:Fy w0 a n cap X gR v0 z0 r0 ws i v z r w)(hX:X w0.heap.size):Fy w0 a n cap X gR v0 z0 r0 ws (i+1) v z r (w.setCell ⟨w0.heap.size,1,none⟩ (.int .i64 ((i:Int)+1))):=by
 have s:=h.st.at (i+1)
 rw[show((i+1:Nat):Int)=(i:Int)+1 by omega]at s
 exact h.go s (Ext.of (Gr.at hX 1 _))
theorem Fy.mset(h:Fy w0 a n cap X gR v0 z0 r0 ws i v z r w){g:Nat}{c:Array Value}{ty:TypeId}(m:Mb (X0 w0.heap.size) w0.heap.size g c ty v z r w)(hg:X g)(j:Nat)(u:Value):Fy w0 a n cap X gR v0 z0 r0 ws i v z r (w.setCell ⟨g,j,none⟩ u):=
 h.go (h.st.mset m j u) (Ext.of (Gr.set (Gr.refl X v w) (.inl hg) j u))
theorem Fy.bad{e:Ending}{zb:List Nd}(h:Fy w0 a n cap X gR v0 z0 r0 ws i v z r w)(y0 y1:Value)(he:e= .returned (.agg #[.int .i64 0,.bool false])):Res w0 a n cap zb X v0 z0 r0 ws (.bad i) e ((w.setCell ⟨gR,0,none⟩ y0).setCell ⟨gR,1,none⟩ y1):=by
 have h0:Res w0 a n cap zb X v z r w (.bad i) e w:=⟨he,v,z,r,h.st,Ext.refl _ _ _ _ _,fun _ _ _ _ he=>by cases he⟩
 exact h0.fin h.tot h.rb h.ge y0 y1
theorem Fy.ok{e:Ending}{zb:List Nd}{lv:Int}{tg:Bool}{t:List Nd}(h:Fy w0 a n cap X gR v0 z0 r0 ws i v z r w)(y0 y1:Value)(he:e= .returned (.agg #[.int .i64 lv,.bool tg]))(hm:z.map (·.1)=zb++t.map (shN (zb.length:Int))):Res w0 a n cap zb X v0 z0 r0 ws (.ok lv tg t i) e ((w.setCell ⟨gR,0,none⟩ y0).setCell ⟨gR,1,none⟩ y1):=by
 have h0:Res w0 a n cap zb X v z r w (.ok lv tg t i) e w:=⟨he,v,z,r,h.st,Ext.refl _ _ _ _ _,fun _ _ _ _ he=>by injection he with _ _ he _;rw[←he];exact hm⟩
 exact h0.fin h.tot h.rb h.ge y0 y1
theorem Fy.res{e:Ending}{zb:List Nd}{R:R}(h:Fy w0 a n cap X gR v0 z0 r0 ws i v z r w)(hr:Res w0 a n cap zb X v z r w R e w')(y0 y1:Value):Res w0 a n cap zb X v0 z0 r0 ws R e ((w'.setCell ⟨gR,0,none⟩ y0).setCell ⟨gR,1,none⟩ y1):=hr.fin h.tot h.rb h.ge y0 y1
theorem Fy.rbk{e:Ending}{zb:List Nd}{R:R}(h:Fy w0 a n cap X gR v0 z0 r0 ws i v z r w)(hr:Res w0 a n cap zb X v z r w R e w'):Bk gR #[.int .i64 0,.bool false] 82 w':=hr.bk h.rb.bk h.rb.x h.rb.o
end
theorem Res.narrow{w0:World}{a:Option Addr}{n cap:Nat}{zb:List Nd}{v:Value}{z:List (Nd×Value)}{r:Nat→Nat}{w:World}{R:R}{e:Ending}{w':World}{gn:Nat}(h:Res w0 a n cap zb (Xq w0.heap.size gn) v z r w R e w')(hg:w.heap.size≤gn):Res w0 a n cap zb (X0 w0.heap.size) v z r w R e w':=
 h.wide fun k hk hx=>by rcases hx with h1|h1;exact h1;omega
theorem resq{w0:World}{a:Option Addr}{n cap:Nat}{zb:List Nd}{v0 v:Value}{z0 z:List (Nd×Value)}{r0 r:Nat→Nat}{ws w:World}{R:R}{e:Ending}{w':World}{gn gR q i:Nat}(hq:ws.heap.size≤q)(F:Fy w0 a n cap (Xq w0.heap.size gn) gR v0 z0 r0 ws i v z r w)(h:Res w0 a n cap zb (Xq w0.heap.size q) v z r w R e w')(hgn:ws.heap.size≤gn)(hgq:gR≠q)(y0 y1:Value):Res w0 a n cap zb (X0 w0.heap.size) v0 z0 r0 ws R e ((w'.setCell ⟨gR,0,none⟩ y0).setCell ⟨gR,1,none⟩ y1):=by
 have F':=F.tot.wide (Y:=fun k=>k=w0.heap.size∨k=gn∨k=q) (fun k _ hk=>by rcases hk with h|h;exact .inl h;exact .inr (.inl h))
 have h':=h.wide (Y:=fun k=>k=w0.heap.size∨k=gn∨k=q) (fun k _ hk=>by rcases hk with h|h;exact .inl h;exact .inr (.inr h))
 have m:Mb (fun k=>k=w0.heap.size∨k=gn∨k=q) w0.heap.size gR #[.int .i64 0,.bool false] 82 v z r w:=⟨F.rb.bk,fun hk=>by rcases hk with h|h|h;exact F.rb.x (.inl h);exact F.rb.x (.inr h);exact hgq h,F.rb.b,F.rb.o,F.rb.r⟩
 exact(h'.fin F' m F.ge y0 y1).wide fun k hk hx=>by rcases hx with h1|h1|h1;exact h1;omega;omega
theorem eres_len{zb:List Nd}{ps:List (List Nd)}{l:List Tk}{M i j:Nat}{z z2:List (Nd×Value)}(hzb:z.map (·.1)=zb)(m2:z2.map (·.1)=zb++G1 zb.length ps)(ho:OkP M l i 0 (.ok ps j))(hz:z.length+2*(l.length-i)≤200000):z2.length≤1000000:=by
 have h1:=congrArg List.length hzb
 have h2:=congrArg List.length m2
 rw[List.length_map]at h1
 rw[List.length_map,List.length_append,G1_len]at h2
 obtain⟨o1,o2,o3,o4,o5⟩:=ho
 omega
section
variable {w0:World} {l:List Tk} {a:Option Addr} {cap i:Nat} {v:Value} {z:List (Nd×Value)} {r:Nat→Nat} {E:Ps→Nat→R} {M i0:Nat}
set_option maxHeartbeats 6400000 in
theorem listed_any(hE:CallE w0 a cap l E i0)(hOk:∀p i,i≤l.length→Ok M l i (E p i))(k A B:Int)(s0:ByteArray)(zb:List Nd)(w:World)(h0:i0≤i+1)(hA:¬A=0)(hB0:¬B=0)(hi:i<l.length)(hl:l.length≤50000)(hc:tk.Lies w0.heap.size w0 a l)(hz:z.length+2*(l.length-i)≤200000)(hst:St w0 a l.length cap i v z r w)(hzb:z.map (·.1)=zb):
  Calls Tryz.prog 279 #[.pointer (some ⟨w0.heap.size,0,none⟩),.agg #[.int .i64 k,.int .i64 0,.string s0,.string ⟨#[]⟩,.slice none 0 0],.int .i64 A,.int .i64 B] w (Res w0 a l.length cap zb (X0 w0.heap.size) v z r w (listed E l k A B i)):=by
 obtain⟨W,hW⟩:∃W,W=(w.alloc (.cells #[.int .i64 k,.int .i64 0,.string s0,.string ⟨#[]⟩,.slice none 0 0] 33)).alloc (.cells #[.int .i64 0,.bool false] 82):=⟨_,rfl⟩
 have hB:Below w.heap.size w W:=by rw[hW];exact((Below.refl _ _).alloc (Nat.le_refl _) _).alloc (by simp) _
 have hNb:Bk w.heap.size #[.int .i64 k,.int .i64 0,.string s0,.string ⟨#[]⟩,.slice none 0 0] 33 W:=by rw[hW];exact(Bk.new _ _ _).alloc _
 have hRb:Bk (w.heap.size+1) #[.int .i64 0,.bool false] 82 W:=by
  rw[hW]
  have:=Bk.new (w.alloc (.cells #[.int .i64 k,.int .i64 0,.string s0,.string ⟨#[]⟩,.slice none 0 0] 33)) #[.int .i64 0,.bool false] 82
  simpa using this
 have hlt:=hst.lt
 have N0:=hid (Mb.new (X:=X0 w0.heap.size) hst hNb (Nat.le_refl _) (by unfold X0;omega))
 have F0:=hid (show Fy w0 a l.length cap (Xq w0.heap.size w.heap.size) (w.heap.size+1) v z r w i v z r W from⟨hst.keep hB,Ext.of (Gr.quiet hB),Mb.new hst hRb (by omega) (by unfold Xq;omega),by omega⟩)
 have HXB:=hid (show Xq w0.heap.size w.heap.size w0.heap.size from Or.inl rfl)
 have HXN:=hid (show Xq w0.heap.size w.heap.size w.heap.size from Or.inr rfl)
 have HNE:=hid (show¬w.heap.size=w0.heap.size by omega)
 have HC:=hid hc
 have HL:=hid hl
 have HI:=hid hi
 have HZ:=hid hz
 have HZB:=hid hzb
 have J:=hid (show z.map (·.1)=zb++G1 zb.length [] by rw[hzb,G1_nil,List.append_nil])
 have N:=hid (show z.length≤1000000 by omega)
 have hib:i≤50000:=by omega
 have hfs:=fld_s
 have HNX:=hid (next_any W F0.st hc (by omega) (Nat.le_of_lt hi))
 have HTA:=hid (fun W2 (s2:St w0 a l.length cap (i+1) v z r W2)=>take_any A W2 s2 hc (by omega) hi)
 obtain⟨x,hx⟩:∃x,tx l i=x:=⟨_,rfl⟩
 have hfin:∀ps j,fin k 0 (tx l i) ps j=fin k 0 x ps j:=fun ps j=>by rw[hx]
 rw[hx]at HNX
 have hdef:listed E l k A B i=(if kd l (i+1)=A then(if B=33∧kd l (i+2)=33 then fin k 0 x [] (i+3)else match els E l 6 6 [] (i+2)with| .bad j=> .bad j| .ok ps j=>if kd l j=B then fin k 0 x ps (j+1)else .bad j)else .bad (i+1)):=by unfold listed;rw[hx];rfl
 obtain⟨RR,hRR⟩:∃RR,listed E l k A B i=RR:=⟨_,rfl⟩
 rw[hRR]at hdef⊢
 clear hst hB hNb hRb hzb hz hi hl hlt hx hfin hRR
 by_cases h1:kd l (i+1)=A
 ·rw[if_pos h1]at hdef
  rw[decide_eq_true h1,show aft l (i+1) A=i+2 from if_pos h1]at HTA
  have y:=kd_lt (l:=l) (i:=i+1) (by omega)
  have HTB:=hid (fun W2 (s2:St w0 a l.length cap (i+2) v z r W2)=>take_any B W2 s2 hc (by have:=HL.out;omega) y)
  have HEL:=hid (fun W2 (s2:St w0 a l.length cap (i+2) v z r W2) n2=>elements_any hE hOk k 0 x 6 zb w.heap.size W2 (by omega) y HL.out hc (by omega) (by omega) (by have:=HZ.out;omega) s2 n2 HZB.out)
  have HOP:=hid (els_ok (M:=M) hOk 6 6 [] (i+2) y (fun q hq=>by simp at hq))
  have HDF:=hid hdef
  clear h1 y hc hA hB0 hE hOk h0 hdef
  go_enter Tryz.func279,Tryz.ntmps279
  go_wp2_with fail
  rw[←hW]
  clear hW
  refine HNX.mono ?_
  rintro e w1 ⟨rfl,b1⟩
  have F1:=hid (F0.quiet b1)
  have N1:=hid (N0.ext (Ext.of (Gr.quiet b1)))
  clear b1
  have N2:=hid (N1.set 2 (.string x))
  have F2:=hid (F1.mset N1.out HXN.out 2 (.string x))
  have N3:=hid (N2.oth HNE.out 1 (.int .i64 ((i:Int)+1)))
  have F3:=hid (F2.at HXB.out)
  obtain⟨c0,c1,c2⟩:=F2.st.c
  have f1:=F2.st.f 1
  obtain⟨n0,n1,n2,n3,n4⟩:=N1.bk.c5
  have nf:=N1.bk.f 2
  go_wp2_with fail
  clear c0 c1 c2 f1 n0 n1 n2 n3 n4 nf
  refine(HTA.out _ F3.st).mono ?_
  rintro e w4 ⟨rfl,s4,g4⟩
  have F4:=hid (F3.take HXB.out s4 g4)
  have N4:=hid (N3.ext (Ext.of g4))
  clear s4 g4
  go_upto_region 5 with fail
  go_cut [31] (fun c wx=>c= .bool (decide (B=33∧kd l (i+2)=33))∧Fy w0 a l.length cap (Xq w0.heap.size w.heap.size) (w.heap.size+1) v z r w (if B=33∧kd l (i+2)=33 then i+3 else i+2) v z r wx∧Mb (X0 w0.heap.size) w0.heap.size w.heap.size #[.int .i64 k,.int .i64 0,.string x,.string ⟨#[]⟩,.slice none 0 0] 33 v z r wx)
  case first=>
   by_cases h33:B=33
   ·subst h33
    go_wp2_with fail
    refine(HTB.out _ F4.st).mono ?_
    rintro e w5 ⟨rfl,s5,g5⟩
    have F5:=hid (F4.take HXB.out s5 g5)
    have N5:=hid (N4.ext (Ext.of g5))
    clear s5 g5
    go_wp2
    go_meet
    refine⟨congrArg Value.bool (by simp), ?_,N5.out⟩
    have h5:=F5.out
    unfold aft at h5
    simpa using h5
   ·obtain⟨S,P⟩:=ne_facts h33
    have I:=hid h33
    clear h33
    go_wp2
    go_meet
    refine⟨congrArg Value.bool (by have:=I.out;simp[this]), ?_,N4.out⟩
    rw[if_neg (fun h=>I.out h.1)]
    exact F4.out
  case rest=>
  obtain⟨rfl,hF,hN⟩:=hcut
  have hdef:=HDF.out
  have N5:=hid hN
  clear hN HDF F1 F2 F3 F4 N1 N2 N3 N4
  by_cases h2:B=33∧kd l (i+2)=33
  ·rw[if_pos h2]at hdef hF
   subst hdef
   rw[decide_eq_true h2]
   have F5:=hid hF
   clear h2 hF
   obtain⟨r0,r1⟩:=F5.rb.bk.c2
   have g0:=F5.rb.bk.f 0
   have g1:=F5.rb.bk.f 1
   obtain⟨n0,n1,n2,n3,n4⟩:=N5.bk.c5
   go_wp2_with fail
   clear r0 r1 g0 g1 n0 n1 n2 n3 n4
   refine((addR k 0 x zb [] (.slice none 0 0) w0.heap.size _ F5.st N.out (.inl ⟨rfl,rfl⟩) J.out).mono fun e w' h=>h.wide (Y:=Xq w0.heap.size w.heap.size) (fun k _ h=>by rcases h with h|h<;>exact Or.inl h)).mono ?_
   rintro e w9 h9
   obtain⟨rfl,G⟩:=id h9
   have H9:=hid h9
   have R9:=hid (F5.rbk h9)
   obtain⟨r0,r1⟩:=R9.c2
   have g0:=R9.f 0
   have g1:=R9.f 1
   clear h9 G
   go_wp2
   obtain⟨t0,t1⟩:=(R9.put2 (.int .i64 (lvR (fin k 0 x [] (i+3)))) (.bool (tgR (fin k 0 x [] (i+3))))).c2
   exact bodyPost_ret (v:= .agg #[.int .i64 (lvR (fin k 0 x [] (i+3))),.bool (tgR (fin k 0 x [] (i+3)))]) (by simp[results,Tryz.results279,go_sem,t0,t1]) rfl ((F5.res H9.out _ _).narrow (Nat.le_refl _))
  rw[if_neg h2]at hdef hF
  rw[decide_eq_false h2]
  have F5:=hid hF
  have HD:=hid hdef
  clear h2 hF hdef
  go_wp2_with fail
  refine(_root_.Go.Proofs.YtebjmdpkobhcbaaGreatDoor.ps.impl_top _).mono ?_
  rintro e w5 ⟨rfl,b5⟩
  have F5:=hid (F5.quiet b5)
  have N5:=hid (N5.ext (Ext.of (Gr.quiet b5)))
  clear b5
  go_wp2_with fail
  refine(HEL.out _ F5.st N5.out).mono ?_
  rintro e w6 ⟨rfl,v6,z6,r6,u6,q6,s6,e6,n6,m6⟩
  have F6:=hid (F5.go s6 e6)
  have hdef:=HD.out
  clear s6 e6 HEL HD
  cases hr:els E l 6 6 [] (i+2)with
  |bad j=>
   rw[hr]at F6 hdef
   simp only[atP]at F6
   simp only at hdef
   subst hdef
   clear m6 n6 hr
   simp only[okP]
   obtain⟨r0,r1⟩:=F6.rb.bk.c2
   have g0:=F6.rb.bk.f 0
   have g1:=F6.rb.bk.f 1
   go_wp2
   obtain⟨t0,t1⟩:=(F6.rb.bk.put2 (.int .i64 0) (.bool false)).c2
   exact bodyPost_ret (v:= .agg #[.int .i64 0,.bool false]) (by simp[results,Tryz.results279,go_sem,t0,t1]) rfl ((F6.bad _ _ rfl).narrow (Nat.le_refl _))
  |ok ps j=>
   rw[hr]at F6 hdef HOP m6
   simp only[atP]at F6
   simp only at hdef
   obtain⟨m6,x6,y6⟩:=m6 _ _ rfl
   have hjl:=HOP.out.2.1
   have N6:=hid n6
   have X6:=hid x6
   have O:=hid m6
   have F:=hid (show w.heap.size+1<q6 from Nat.lt_of_lt_of_le F5.rb.bk.lt y6)
   have K:=hid (eres_len HZB.out m6 HOP.out (by have:=HZ.out;omega))
   have HTC:=hid (take_any B _ F6.st HC.out (by have:=HL.out;omega) hjl)
   clear n6 m6 x6 y6 hr hjl
   simp only[okP]
   by_cases h4:kd l j=B
   ·rw[if_pos h4]at hdef
    subst hdef
    rw[decide_eq_true h4,show aft l j B=j+1 from if_pos h4]at HTC
    clear h4
    go_wp2_with fail
    refine HTC.mono ?_
    rintro e w7 ⟨rfl,s7,g7⟩
    have F7:=hid (F6.take HXB.out s7 g7)
    have N7:=hid (N6.ext (Ext.of g7))
    have X7:=hid (X6.take g7)
    clear s7 g7
    obtain⟨r0,r1⟩:=F7.rb.bk.c2
    have g0:=F7.rb.bk.f 0
    have g1:=F7.rb.bk.f 1
    obtain⟨n0,n1,n2,n3,n4⟩:=N7.bk.c5
    go_wp2_with fail
    clear r0 r1 g0 g1 n0 n1 n2 n3 n4
    refine(addR k 0 x zb ps u6 q6 _ F7.st K.out X7.out O.out).mono ?_
    rintro e w9 h9
    obtain⟨rfl,G⟩:=id h9
    have H9:=hid h9
    have R9:=hid (h9.bk F7.rb.bk (fun h=>by rcases h with h|h;exact F7.rb.x (Or.inl h);have:=F.out;omega) F7.rb.o)
    obtain⟨r0,r1⟩:=R9.c2
    have g0:=R9.f 0
    have g1:=R9.f 1
    clear h9 G
    go_wp2
    obtain⟨t0,t1⟩:=(R9.put2 (.int .i64 (lvR (fin k 0 x ps (j+1)))) (.bool (tgR (fin k 0 x ps (j+1))))).c2
    exact bodyPost_ret (v:= .agg #[.int .i64 (lvR (fin k 0 x ps (j+1))),.bool (tgR (fin k 0 x ps (j+1)))]) (by simp[results,Tryz.results279,go_sem,t0,t1]) rfl (resq (by have:=F.out;omega) F7.out H9.out (Nat.le_refl _) (by have:=F.out;omega) _ _)
   ·rw[if_neg h4]at hdef
    subst hdef
    rw[decide_eq_false h4,show aft l j B=j from if_neg h4]at HTC
    clear h4
    go_wp2_with fail
    refine HTC.mono ?_
    rintro e w7 ⟨rfl,s7,g7⟩
    have F7:=hid (F6.take HXB.out s7 g7)
    clear s7 g7
    obtain⟨r0,r1⟩:=F7.rb.bk.c2
    have g0:=F7.rb.bk.f 0
    have g1:=F7.rb.bk.f 1
    go_wp2
    obtain⟨t0,t1⟩:=(F7.rb.bk.put2 (.int .i64 0) (.bool false)).c2
    exact bodyPost_ret (v:= .agg #[.int .i64 0,.bool false]) (by simp[results,Tryz.results279,go_sem,t0,t1]) rfl ((F7.bad _ _ rfl).narrow (Nat.le_refl _))
 ·rw[if_neg h1]at hdef
  subst hdef
  rw[decide_eq_false h1,show aft l (i+1) A=i+1 from if_neg h1]at HTA
  clear h1 hc hA hB0 hE hOk h0
  go_enter Tryz.func279,Tryz.ntmps279
  go_wp2_with fail
  rw[←hW]
  clear hW
  refine HNX.mono ?_
  rintro e w1 ⟨rfl,b1⟩
  have F1:=hid (F0.quiet b1)
  have N1:=hid (N0.ext (Ext.of (Gr.quiet b1)))
  clear b1
  have N2:=hid (N1.set 2 (.string x))
  have F2:=hid (F1.mset N1.out HXN.out 2 (.string x))
  have N3:=hid (N2.oth HNE.out 1 (.int .i64 ((i:Int)+1)))
  have F3:=hid (F2.at HXB.out)
  obtain⟨c0,c1,c2⟩:=F2.st.c
  have f1:=F2.st.f 1
  obtain⟨n0,n1,n2,n3,n4⟩:=N1.bk.c5
  have nf:=N1.bk.f 2
  go_wp2_with fail
  clear c0 c1 c2 f1 n0 n1 n2 n3 n4 nf
  refine(HTA.out _ F3.st).mono ?_
  rintro e w4 ⟨rfl,s4,g4⟩
  have F4:=hid (F3.take HXB.out s4 g4)
  have N4:=hid (N3.ext (Ext.of g4))
  clear s4 g4
  obtain⟨r0,r1⟩:=F4.rb.bk.c2
  have g0:=F4.rb.bk.f 0
  have g1:=F4.rb.bk.f 1
  go_wp2
  obtain⟨t0,t1⟩:=(F4.rb.bk.put2 (.int .i64 0) (.bool false)).c2
  exact bodyPost_ret (v:= .agg #[.int .i64 0,.bool false]) (by simp[results,Tryz.results279,go_sem,t0,t1]) rfl ((F4.bad _ _ rfl).narrow (Nat.le_refl _))
end
end Go.Proofs.YtebjmdpkobhcbaaGreatDoor.pr

namespace Go.Proofs.YtebjmdpkobhcbaaGreatDoor.pr
open Lib (hid)
open Go.ChangeShapes Go.WideShapes Go.ChangeAt Go.RowKit
open tk (Tk)
open nd (Nd PT KidV IBlk OwnI shN makeT)
open ps (fits Ps B5 posOk kidI top)
open pe
set_option linter.unusedVariables false
set_option linter.unusedSimpArgs false
set_option maxRecDepth 20000
section
variable {w0:World} {l:List Tk} {a:Option Addr} {cap i:Nat} {v:Value} {z:List (Nd×Value)} {r:Nat→Nat} {E:Ps→Nat→R} {M i0:Nat}
theorem eres_len2{zb:List Nd}{ps:List (List Nd)}{l:List Tk}{M i j:Nat}{z z2:List (Nd×Value)}(hzb:z.map (·.1)=zb)(m2:z2.map (·.1)=zb++G1 zb.length ps)(ho:OkP M l i 0 (.ok ps j))(hz:z.length+2*(l.length-i)≤200000):z2.length+2*(l.length-(j+1))≤200000:=by
 have h1:=congrArg List.length hzb
 have h2:=congrArg List.length m2
 rw[List.length_map]at h1
 rw[List.length_map,List.length_append,G1_len]at h2
 obtain⟨o1,o2,o3,o4,o5⟩:=ho
 omega
set_option maxHeartbeats 6400000 in
theorem group_any(hE:CallE w0 a cap l E i0)(hOk:∀p i,i≤l.length→Ok M l i (E p i))(p:Ps)(zb:List Nd)(w:World)(h0:i0≤i+1)(hi:i<l.length)(hl:l.length≤50000)(hc:tk.Lies w0.heap.size w0 a l)(hz:z.length+2*(l.length-i)≤200000)(hst:St w0 a l.length cap i v z r w)(hzb:z.map (·.1)=zb):
  Calls Tryz.prog 155 #[.pointer (some ⟨w0.heap.size,0,none⟩),.agg #[.int .i64 p.l,.bool p.d,.bool p.i,.bool p.g,.bool p.s]] w (Res w0 a l.length cap zb (X0 w0.heap.size) v z r w (group E l p i)):=by
 obtain⟨V,hV⟩:∃V,V=(w.alloc (.cells #[.int .i64 p.l,.bool p.d,.bool p.i,.bool p.g,.bool p.s] 44)).alloc (.cells #[.int .i64 0,.bool false] 82):=⟨_,rfl⟩
 have hB:Below w.heap.size w V:=by rw[hV];exact((Below.refl _ _).alloc (Nat.le_refl _) _).alloc (by simp) _
 have hPb:Bk w.heap.size #[.int .i64 p.l,.bool p.d,.bool p.i,.bool p.g,.bool p.s] 44 V:=by rw[hV];exact(Bk.new _ _ _).alloc _
 have hRb:Bk (w.heap.size+1) #[.int .i64 0,.bool false] 82 V:=by
  rw[hV]
  have:=Bk.new (w.alloc (.cells #[.int .i64 p.l,.bool p.d,.bool p.i,.bool p.g,.bool p.s] 44)) #[.int .i64 0,.bool false] 82
  simpa using this
 have hlt:=hst.lt
 have P0:Mb (Xq w0.heap.size (w.heap.size+1+1)) w0.heap.size w.heap.size #[.int .i64 p.l,.bool p.d,.bool p.i,.bool p.g,.bool p.s] 44 v z r V:=Mb.new hst hPb (Nat.le_refl _) (by unfold Xq;omega)
 have F0:Fy w0 a l.length cap (Xq w0.heap.size (w.heap.size+1+1)) (w.heap.size+1) v z r w i v z r V:=⟨hst.keep hB,Ext.of (Gr.quiet hB),Mb.new hst hRb (by omega) (by unfold Xq;omega),by omega⟩
 have HXB:=hid (show Xq w0.heap.size (w.heap.size+1+1) w0.heap.size from Or.inl rfl)
 obtain⟨W,hW⟩:∃W,W=(V.setCell ⟨w0.heap.size,1,none⟩ (.int .i64 ((i:Int)+1))).alloc (.cells #[.int .i64 13,.int .i64 0,.string ⟨#[]⟩,.string ⟨#[]⟩,.slice none 0 0] 33):=⟨_,rfl⟩
 have hgn:(V.setCell ⟨w0.heap.size,1,none⟩ (.int .i64 ((i:Int)+1))).heap.size=w.heap.size+1+1:=by rw[hV];simp
 have I:Below (V.setCell ⟨w0.heap.size,1,none⟩ (.int .i64 ((i:Int)+1))).heap.size (V.setCell ⟨w0.heap.size,1,none⟩ (.int .i64 ((i:Int)+1))) W:=by rw[hW];exact(Below.refl _ _).alloc (Nat.le_refl _) _
 have J:=F0.at HXB.out
 have F1:=hid (J.quiet I)
 have P1:=hid ((P0.oth (by omega:¬w.heap.size=w0.heap.size) 1 (.int .i64 ((i:Int)+1))).ext (Ext.of (Gr.quiet I)))
 have N1:=hid (show Mb (X0 w0.heap.size) w0.heap.size (w.heap.size+1+1) #[.int .i64 13,.int .i64 0,.string ⟨#[]⟩,.string ⟨#[]⟩,.slice none 0 0] 33 v z r W by
  refine Mb.new J.st ?_ (by rw[hgn];exact Nat.le_refl _) (by unfold X0;omega)
  rw[hW,←hgn]
  exact Bk.new _ _ _)
 obtain⟨c0,c1,c2⟩:=F0.st.c
 have f1:=F0.st.f 1
 have p0:=P1.bk.c5
 obtain⟨n0,n1,n2,n3,n4⟩:=N1.bk.c5
 have HGW:=hid (show w.heap.size≤w.heap.size+1+1 by omega)
 have HC:=hid hc
 have HL:=hid hl
 have HI:=hid hi
 have HZ:=hid hz
 have HZB:=hid hzb
 have hib:i≤50000:=by omega
 have HOP:=hid (els_ok (M:=M) hOk (many p) (many p) [] (i+1) hi (fun q hq=>by simp at hq))
 have HPL:=hid (els_len (E:=E) (l:=l) (many p) (many p) [] (i+1))
 obtain⟨m,hm⟩:∃m,many p=m:=⟨_,rfl⟩
 have N:0<m:=by rw[←hm];unfold many;split<;>omega
 have G:m≤6:=by rw[←hm];unfold many;split<;>omega
 have HEL:=hid (fun W2 (s2:St w0 a l.length cap (i+1) v z r W2) n2=>elements_any hE hOk 13 0 ⟨#[]⟩ m zb (w.heap.size+1+1) W2 h0 hi hl hc N G (by omega) s2 n2 hzb)
 have af:=hid G
 have hdef:group E l p i=(match els E l m m [] (i+1)with| .bad j=> .bad j| .ok ps j=>if kd l j=33 then(if ps.length=1 then .ok 15 false (ps.headD []) (j+1)else inn l ps (j+1))else .bad j):=by unfold group;rw[hm];rfl
 rw[hdef]
 have hFT:ft 13 0 p=decide (m=6):=by
  rw[←hm];unfold many
  cases ft 13 0 p<;>rfl
 have HFT:=hid (show fits 13 0 p.l p.d p.i p.g p.s=decide (m=6)from hFT)
 rw[hm]at HOP HPL
 have P:m=1∨m=6:=by rw[←hm];unfold many;split<;>simp
 rw[hW]at p0 n0 n1 n2 n3 n4
 rw[hV]at hW c0 c1 c2 f1 p0 n0 n1 n2 n3 n4
 clear hst hB I hPb hRb hzb hz hi hl hlt hdef hgn hm hFT P0 F0 J hV hE hOk h0 N G
 obtain⟨RR,hRR⟩:∃RR,(match els E l m m [] (i+1)with| .bad j=>R.bad j| .ok ps j=>if kd l j=33 then(if ps.length=1 then .ok 15 false (ps.headD []) (j+1)else inn l ps (j+1))else .bad j)=RR:=⟨_,rfl⟩
 rw[hRR]
 have HD:=hid hRR
 clear hRR
 go_enter Tryz.func155,Tryz.ntmps155
 go_wp2_with fail
 rw[←hW]
 clear hW c0 c1 c2 f1 p0 n0 n1 n2 n3 n4
 refine(_root_.Go.Proofs.YtebjmdpkobhcbaaGreatDoor.ps.impl_fits 13 0 p.l ⟨#[]⟩ ⟨#[]⟩ none 0 0 p.d p.i p.g p.s _).mono ?_
 rw[HFT.out]
 rintro e w2 ⟨rfl,b2⟩
 have F2:=hid (F1.quiet b2)
 have N2:=hid (N1.ext (Ext.of (Gr.quiet b2)))
 have P2:=hid (P1.ext (Ext.of (Gr.quiet b2)))
 clear b2
 go_upto_if 17 with (fail)
 go_cut [6] (fun c wx=>c= .int .i64 (m:Int)∧w2=wx)
 case first=>
  rcases P with rfl|rfl<;>(go_wp2;go_meet;exact⟨rfl,rfl⟩)
 case rest=>
 obtain⟨rfl,rfl⟩:=hcut
 go_wp2_with fail
 refine(_root_.Go.Proofs.YtebjmdpkobhcbaaGreatDoor.ps.impl_top _).mono ?_
 rintro e w3 ⟨rfl,b3⟩
 have F2:=hid (F2.quiet b3)
 have N2:=hid (N2.ext (Ext.of (Gr.quiet b3)))
 have P2:=hid (P2.ext (Ext.of (Gr.quiet b3)))
 clear b3
 go_wp2_with fail
 refine(HEL.out _ F2.st N2.out).mono ?_
 rintro e w6 ⟨rfl,v6,z6,r6,u6,q6,s6,e6,n6,m6⟩
 have F6:=hid (F2.go s6 e6)
 have P6:=hid (P2.ext e6)
 have hdef:=HD.out
 clear s6 e6 HEL HD
 cases hr:els E l m m [] (i+1)with
 |bad j=>
  rw[hr]at F6 hdef
  simp only[atP]at F6
  simp only at hdef
  subst hdef
  clear m6 n6 hr hc
  simp only[okP]
  obtain⟨r0,r1⟩:=F6.rb.bk.c2
  have g0:=F6.rb.bk.f 0
  have g1:=F6.rb.bk.f 1
  go_wp2
  obtain⟨t0,t1⟩:=(F6.rb.bk.put2 (.int .i64 0) (.bool false)).c2
  exact bodyPost_ret (v:= .agg #[.int .i64 0,.bool false]) (by simp[results,Tryz.results155,go_sem,t0,t1]) rfl ((F6.bad _ _ rfl).narrow HGW.out)
 |ok ps j=>
  rw[hr]at F6 HOP hdef m6
  simp only[atP]at F6
  simp only at hdef
  obtain⟨m6,x6,y6⟩:=m6 _ _ rfl
  have hpl:=HPL.out _ _ hr
  simp only[List.length_nil,Nat.zero_add]at hpl
  have hjl:=HOP.out.2.1
  have hps:=HOP.out.2.2.2.2
  have HPS:=hid (show ps.length≤6 by have:=af.out;omega)
  have HTC:=hid (fun v2 z2 r2 W2 s2=>take_any (v:=v2) (z:=z2) (r:=r2) (cap:=cap) (i:=j) 33 W2 s2 hc (by have:=HL.out;omega) hjl)
  have N6:=hid n6
  have X6:=hid x6
  have M6:=hid m6
  have ac:=hid (eres_len2 HZB.out m6 HOP.out (by have:=HZ.out;omega))
  have F:=hid (show w.heap.size+1<q6 from Nat.lt_of_lt_of_le F2.rb.bk.lt y6)
  clear n6 m6 x6 y6
  simp only[okP]
  by_cases h4:kd l j=33
  ·rw[if_pos h4]at hdef
   rw[decide_eq_true h4,show aft l j 33=j+1 from if_pos h4]at HTC
   have y:=kd_lt (l:=l) (i:=j) (by omega)
   have ag:=hid y
   by_cases h5:ps.length=1
   ·rw[if_pos h5]at hdef
    subst hdef
    obtain⟨t,rfl⟩:=List.length_eq_one_iff.1 h5
    clear hc hr hjl h4 h5 hpl hps y
    go_wp2_with fail
    refine(HTC.out _ _ _ _ F6.st).mono ?_
    rintro e w7 ⟨rfl,s7,g7⟩
    have F7:=hid (F6.take HXB.out s7 g7)
    have P7:=hid (P6.ext (Ext.of (g7.wide (Y:=Xq w0.heap.size (w.heap.size+1+1)) (fun k _ h=>Or.inl h))))
    have N7:=hid (N6.ext (Ext.of g7))
    have X7:=hid (X6.take g7)
    clear s7 g7
    obtain⟨uk,uc,hu⟩:=X7.form
    rw[G2_len]at hu
    simp only[List.length_singleton]at hu
    subst hu
    obtain⟨r0,r1⟩:=F7.rb.bk.c2
    have g0:=F7.rb.bk.f 0
    have g1:=F7.rb.bk.f 1
    obtain⟨n0,n1,n2,n3,n4⟩:=N7.bk.c5
    go_wp2
    obtain⟨t0,t1⟩:=(F7.rb.bk.put2 (.int .i64 15) (.bool false)).c2
    exact bodyPost_ret (v:= .agg #[.int .i64 15,.bool false]) (by simp[results,Tryz.results155,go_sem,t0,t1]) rfl ((F7.ok (zb:=zb) (lv:=15) (tg:=false) (t:=t) _ _ rfl (by rw[M6.out,G_one])).narrow HGW.out)
   ·rw[if_neg h5]at hdef
    subst hdef
    have HIN:=hid (fun v2 z2 r2 W2 u q O s2 ae aa ad=>in_any (v:=v2) (z:=z2) (r:=r2) (cap:=cap) (i:=j+1) ⟨#[]⟩ zb ps u q p W2 y HL.out hc O s2 ae aa ad)
    have S:((ps.length:Int)==1)=false:=by rw[beq_eq_false_iff_ne];omega
    have Z:¬(ps.length:Int)=1:=by omega
    have hpb:ps.length≤6:=HPS.out
    obtain⟨K,hK⟩:∃K,ps.length=K:=⟨_,rfl⟩
    rw[hK]at S Z hpb
    have HK:=hid hK
    clear hc hr hjl h4 h5 hpl hps y hK
    go_wp2_with fail
    refine(HTC.out _ _ _ _ F6.st).mono ?_
    rintro e w7 ⟨rfl,s7,g7⟩
    have F7:=hid (F6.take HXB.out s7 g7)
    have P7:=hid (P6.ext (Ext.of (g7.wide (Y:=Xq w0.heap.size (w.heap.size+1+1)) (fun k _ h=>Or.inl h))))
    have N7:=hid (N6.ext (Ext.of g7))
    have X7:=hid (X6.take g7)
    clear s7 g7
    obtain⟨uk,uc,hu⟩:=X7.form
    rw[G2_len,HK.out]at hu
    subst hu
    obtain⟨r0,r1⟩:=F7.rb.bk.c2
    have g0:=F7.rb.bk.f 0
    have g1:=F7.rb.bk.f 1
    obtain⟨n0,n1,n2,n3,n4⟩:=N7.bk.c5
    have p0:=P7.bk.c5
    have HQW:=hid (show q6<w7.heap.size by
     rcases X7.out with ⟨hh,-⟩|hh
     ·have:=congrArg List.length hh;rw[G2_len,HK.out]at this;have:=HOP.out.2.2.2.2;have:=HK.out;simp at*;omega
     ·exact hh.2.1)
    go_wp2_with fail
    clear n0 n1 n2 n3 n4 p0 r0 r1 g0 g1
    refine(HIN.out _ _ _ w7 _ q6 ac.out F7.st HQW.out X7.out M6.out).mono ?_
    rintro e w9 h9
    obtain⟨rfl,ab⟩:=id h9
    have H9:=hid h9
    have R9:=hid (h9.bk F7.rb.bk (fun h=>by rcases h with h|h;exact F7.rb.x (Or.inl h);have:=F.out;omega) F7.rb.o)
    obtain⟨r0,r1⟩:=R9.c2
    have g0:=R9.f 0
    have g1:=R9.f 1
    clear h9 ab
    go_wp2
    obtain⟨t0,t1⟩:=(R9.put2 (.int .i64 (lvR (inn l ps (j+1)))) (.bool (tgR (inn l ps (j+1))))).c2
    exact bodyPost_ret (v:= .agg #[.int .i64 (lvR (inn l ps (j+1))),.bool (tgR (inn l ps (j+1)))]) (by simp[results,Tryz.results155,go_sem,t0,t1]) rfl (resq (by have:=F.out;omega) F7.out H9.out HGW.out (by have:=F.out;omega) _ _)
  ·rw[if_neg h4]at hdef
   subst hdef
   rw[decide_eq_false h4,show aft l j 33=j from if_neg h4]at HTC
   clear hc hr hjl h4 hpl hps
   go_wp2_with fail
   refine(HTC.out _ _ _ _ F6.st).mono ?_
   rintro e w7 ⟨rfl,s7,g7⟩
   have F7:=hid (F6.take HXB.out s7 g7)
   have P7:=hid (P6.ext (Ext.of (g7.wide (Y:=Xq w0.heap.size (w.heap.size+1+1)) (fun k _ h=>Or.inl h))))
   have N7:=hid (N6.ext (Ext.of g7))
   have X7:=hid (X6.take g7)
   clear s7 g7
   obtain⟨r0,r1⟩:=F7.rb.bk.c2
   have g0:=F7.rb.bk.f 0
   have g1:=F7.rb.bk.f 1
   go_wp2
   obtain⟨t0,t1⟩:=(F7.rb.bk.put2 (.int .i64 0) (.bool false)).c2
   exact bodyPost_ret (v:= .agg #[.int .i64 0,.bool false]) (by simp[results,Tryz.results155,go_sem,t0,t1]) rfl ((F7.bad _ _ rfl).narrow HGW.out)
end
end Go.Proofs.YtebjmdpkobhcbaaGreatDoor.pr

namespace Go.Proofs.YtebjmdpkobhcbaaGreatDoor.pr
open Lib (hid)
open Go.ChangeShapes Go.WideShapes Go.ChangeAt Go.RowKit
open tk (Tk)
open nd (Nd PT KidV IBlk OwnI shN makeT)
open ps (Ps B5 posOk kidI top)
open pe
set_option linter.unusedVariables false
set_option linter.unusedSimpArgs false
set_option maxRecDepth 20000
section
variable {w0:World} {l:List Tk} {a:Option Addr} {cap i:Nat} {v:Value} {z:List (Nd×Value)} {r:Nat→Nat} {E:Ps→Nat→R} {M i0:Nat}
set_option maxHeartbeats 3200000 in
theorem call_any(hE:CallE w0 a cap l E i0)(hOk:∀p i,i≤l.length→Ok M l i (E p i))(k:Int)(s0:ByteArray)(zb:List Nd)(p:Ps)(w:World)(h0:i0≤i+1)(hi:i<l.length)(hl:l.length≤50000)(hc:tk.Lies w0.heap.size w0 a l)(hz:z.length+2*(l.length-i)≤200000)(hst:St w0 a l.length cap i v z r w)(hzb:z.map (·.1)=zb):
  Calls Tryz.prog 236 #[.pointer (some ⟨w0.heap.size,0,none⟩),.agg #[.int .i64 k,.int .i64 0,.string s0,.string ⟨#[]⟩,.slice none 0 0],.agg #[.int .i64 p.l,.bool p.d,.bool p.i,.bool p.g,.bool p.s]] w (Res w0 a l.length cap zb (X0 w0.heap.size) v z r w (listed E l k 32 33 i)):=by
 have hq:w0.heap.size<w.heap.size:=hst.lt
 have hrw:Rw w0.heap.size w0.heap.size (.slice none 0 0) (G2 zb.length []) v z r w:= .inl ⟨rfl,rfl⟩
 have hXX:∀(e:Ending) (w':World),Res w0 a l.length cap zb (Xq w0.heap.size w0.heap.size) v z r w (listed E l k 32 33 i) e w'→Res w0 a l.length cap zb (X0 w0.heap.size) v z r w (listed E l k 32 33 i) e w':=fun e w' h=>h.wide fun k _ h=>by rcases h with h|h<;>exact h
 have HXX:=hid hXX
 obtain⟨W,hW⟩:∃W,W=((w.alloc (.cells #[.int .i64 k,.int .i64 0,.string s0,.string ⟨#[]⟩,.slice none 0 0] 33)).alloc (.cells #[.int .i64 p.l,.bool p.d,.bool p.i,.bool p.g,.bool p.s] 44)).alloc (.cells #[.int .i64 0,.bool false] 82):=⟨_,rfl⟩
 have hB:Below w.heap.size w W:=by rw[hW];exact(((Below.refl _ _).alloc (Nat.le_refl _) _).alloc (by simp) _).alloc (by simp;omega) _
 have hN:Bk w.heap.size #[.int .i64 k,.int .i64 0,.string s0,.string ⟨#[]⟩,.slice none 0 0] 33 W:=by rw[hW];exact((Bk.new _ _ _).alloc _).alloc _
 have hP:Bk (w.heap.size+1) #[.int .i64 p.l,.bool p.d,.bool p.i,.bool p.g,.bool p.s] 44 W:=by
  rw[hW]
  have:=(Bk.new (w.alloc (.cells #[.int .i64 k,.int .i64 0,.string s0,.string ⟨#[]⟩,.slice none 0 0] 33)) #[.int .i64 p.l,.bool p.d,.bool p.i,.bool p.g,.bool p.s] 44).alloc (.cells #[.int .i64 0,.bool false] 82)
  simpa using this
 have hR:Bk (w.heap.size+1+1) #[.int .i64 0,.bool false] 82 W:=by
  rw[hW]
  have:=Bk.new ((w.alloc (.cells #[.int .i64 k,.int .i64 0,.string s0,.string ⟨#[]⟩,.slice none 0 0] 33)).alloc (.cells #[.int .i64 p.l,.bool p.d,.bool p.i,.bool p.g,.bool p.s] 44)) #[.int .i64 0,.bool false] 82
  simpa using this
 have F0:=hid (Fx.start hst (xq_lt hst.lt hq) hN hP hR hB)
 have F:=hid (hrw.quiet hB)
 have HQ:=hid hq
 have HLT:=hid hst.lt
 have y:=hid hB
 have HZB:=hid hzb
 have HC:=hid hc
 have HL:=hid hl
 have HI:=hid hi
 have HZ:=hid hz
 have hXb:Xq w0.heap.size w0.heap.size w0.heap.size:=Or.inl rfl
 have HXB:=hid hXb
 have hib:i≤50000:=by omega
 obtain⟨c0,c1,c2⟩:=F0.st.c
 have f1:=F0.st.f 1
 obtain⟨n0,n1,n2,n3,n4⟩:=F0.nb.bk.c5
 obtain⟨p0,p1,p2,p3,p4⟩:=F0.pb.bk.c5
 obtain⟨r0,r1⟩:=F0.rb.bk.c2
 have g0:=F0.rb.bk.f 0
 have g1:=F0.rb.bk.f 1
 have HLI:=hid (fun W2 s2=>listed_any (v:=v) (z:=z) (r:=r) (cap:=cap) (i:=i) hE hOk k 32 33 s0 zb W2 h0 (by decide) (by decide) hi hl hc hz s2 hzb)
 clear hst hB hrw hzb hz hi hl hc hq hN hP hR hXb hE hOk h0 hXX
 rw[hW]at c0 c1 c2 f1 n0 n1 n2 n3 n4 p0 p1 p2 p3 p4 r0 r1 g0 g1
 go_enter Tryz.func236,Tryz.ntmps236
 go_wp2_with fail
 rw[←hW]
 clear c0 c1 c2 f1 n0 n1 n2 n3 n4 p0 p1 p2 p3 p4 r0 r1 g0 g1 hW
 refine((HLI.out _ F0.st).mono fun e w' h=>h.wide (Y:=Xq w0.heap.size w0.heap.size) (fun k _ h=>Or.inl h)).mono ?_
 rintro e w9 h9
 obtain⟨rfl,j⟩:=id h9
 have H9:=hid h9
 have R9:=hid (F0.rbk h9)
 obtain⟨r0,r1⟩:=R9.c2
 have g0:=R9.f 0
 have g1:=R9.f 1
 clear h9 j
 go_wp2
 obtain⟨t0,t1⟩:=(R9.put2 (.int .i64 (lvR (listed E l k 32 33 i))) (.bool (tgR (listed E l k 32 33 i)))).c2
 exact bodyPost_ret (v:= .agg #[.int .i64 (lvR (listed E l k 32 33 i)),.bool (tgR (listed E l k 32 33 i))]) (by simp[results,Tryz.results236,go_sem,t0,t1]) rfl (HXX.out _ _ (F0.res H9.out _ _))
set_option maxHeartbeats 3200000 in
theorem name_any(hE:CallE w0 a cap l E i0)(hOk:∀p i,i≤l.length→Ok M l i (E p i))(s0:ByteArray)(zb:List Nd)(p:Ps)(w:World)(h0:i0≤i+1)(hi:i<l.length)(hl:l.length≤50000)(hc:tk.Lies w0.heap.size w0 a l)(hz:z.length+2*(l.length-i)≤200000)(hst:St w0 a l.length cap i v z r w)(hzb:z.map (·.1)=zb):
  Calls Tryz.prog 235 #[.pointer (some ⟨w0.heap.size,0,none⟩),.agg #[.int .i64 1,.int .i64 0,.string s0,.string ⟨#[]⟩,.slice none 0 0],.agg #[.int .i64 p.l,.bool p.d,.bool p.i,.bool p.g,.bool p.s]] w (Res w0 a l.length cap zb (X0 w0.heap.size) v z r w (if kd l (i+1)=34 then listed E l 5 34 35 i else pe.word l 1 i)):=by
 have hq:w0.heap.size<w.heap.size:=hst.lt
 have hrw:Rw w0.heap.size w0.heap.size (.slice none 0 0) (G2 zb.length []) v z r w:= .inl ⟨rfl,rfl⟩
 have hXX:∀(e:Ending) (w':World),Res w0 a l.length cap zb (Xq w0.heap.size w0.heap.size) v z r w (if kd l (i+1)=34 then listed E l 5 34 35 i else pe.word l 1 i) e w'→Res w0 a l.length cap zb (X0 w0.heap.size) v z r w (if kd l (i+1)=34 then listed E l 5 34 35 i else pe.word l 1 i) e w':=fun e w' h=>h.wide fun k _ h=>by rcases h with h|h<;>exact h
 have HXX:=hid hXX
 obtain⟨W,hW⟩:∃W,W=((w.alloc (.cells #[.int .i64 1,.int .i64 0,.string s0,.string ⟨#[]⟩,.slice none 0 0] 33)).alloc (.cells #[.int .i64 p.l,.bool p.d,.bool p.i,.bool p.g,.bool p.s] 44)).alloc (.cells #[.int .i64 0,.bool false] 82):=⟨_,rfl⟩
 have hB:Below w.heap.size w W:=by rw[hW];exact(((Below.refl _ _).alloc (Nat.le_refl _) _).alloc (by simp) _).alloc (by simp;omega) _
 have hN:Bk w.heap.size #[.int .i64 1,.int .i64 0,.string s0,.string ⟨#[]⟩,.slice none 0 0] 33 W:=by rw[hW];exact((Bk.new _ _ _).alloc _).alloc _
 have hP:Bk (w.heap.size+1) #[.int .i64 p.l,.bool p.d,.bool p.i,.bool p.g,.bool p.s] 44 W:=by
  rw[hW]
  have:=(Bk.new (w.alloc (.cells #[.int .i64 1,.int .i64 0,.string s0,.string ⟨#[]⟩,.slice none 0 0] 33)) #[.int .i64 p.l,.bool p.d,.bool p.i,.bool p.g,.bool p.s] 44).alloc (.cells #[.int .i64 0,.bool false] 82)
  simpa using this
 have hR:Bk (w.heap.size+1+1) #[.int .i64 0,.bool false] 82 W:=by
  rw[hW]
  have:=Bk.new ((w.alloc (.cells #[.int .i64 1,.int .i64 0,.string s0,.string ⟨#[]⟩,.slice none 0 0] 33)).alloc (.cells #[.int .i64 p.l,.bool p.d,.bool p.i,.bool p.g,.bool p.s] 44)) #[.int .i64 0,.bool false] 82
  simpa using this
 have F0:=hid (Fx.start hst (xq_lt hst.lt hq) hN hP hR hB)
 have I:=hid (hrw.quiet hB)
 have HQ:=hid hq
 have HLT:=hid hst.lt
 have G:=hid hB
 have HZB:=hid hzb
 have HC:=hid hc
 have HL:=hid hl
 have HI:=hid hi
 have HZ:=hid hz
 have hXb:Xq w0.heap.size w0.heap.size w0.heap.size:=Or.inl rfl
 have HXB:=hid hXb
 have hib:i≤50000:=by omega
 obtain⟨c0,c1,c2⟩:=F0.st.c
 have f1:=F0.st.f 1
 obtain⟨n0,n1,n2,n3,n4⟩:=F0.nb.bk.c5
 obtain⟨p0,p1,p2,p3,p4⟩:=F0.pb.bk.c5
 obtain⟨r0,r1⟩:=F0.rb.bk.c2
 have g0:=F0.rb.bk.f 0
 have g1:=F0.rb.bk.f 1
 have HFO:=hid (follower_any W F0.st hc (by omega) (Nat.le_of_lt hi))
 by_cases h1:kd l (i+1)=34
 ·rw[if_pos h1]at HXX⊢
  rw[h1]at HFO
  have HLI:=hid (fun W2 s2=>listed_any (v:=v) (z:=z) (r:=r) (cap:=cap) (i:=i) hE hOk 5 34 35 ⟨#[]⟩ zb W2 h0 (by decide) (by decide) hi hl hc hz s2 hzb)
  clear h1
  clear hst hB hrw hzb hz hi hl hc hq hN hP hR hXb hE hOk h0 hXX
  rw[hW]at c0 c1 c2 f1 n0 n1 n2 n3 n4 p0 p1 p2 p3 p4 r0 r1 g0 g1
  go_enter Tryz.func235,Tryz.ntmps235
  go_wp2_with fail
  rw[←hW]
  clear c0 c1 c2 f1 n0 n1 n2 n3 n4 p0 p1 p2 p3 p4 r0 r1 g0 g1 hW
  refine HFO.mono ?_
  rintro e w1 ⟨rfl,b1⟩
  have F1:=hid (F0.quiet b1)
  clear b1
  obtain⟨c0,c1,c2⟩:=F1.st.c
  have f1:=F1.st.f 1
  obtain⟨n0,n1,n2,n3,n4⟩:=F1.nb.bk.c5
  obtain⟨p0,p1,p2,p3,p4⟩:=F1.pb.bk.c5
  obtain⟨r0,r1⟩:=F1.rb.bk.c2
  have g0:=F1.rb.bk.f 0
  have g1:=F1.rb.bk.f 1
  go_wp2_with fail
  clear c0 c1 c2 f1 n0 n1 n2 n3 n4 p0 p1 p2 p3 p4 r0 r1 g0 g1
  refine((HLI.out _ F1.st).mono fun e w' h=>h.wide (Y:=Xq w0.heap.size w0.heap.size) (fun k _ h=>Or.inl h)).mono ?_
  rintro e w9 h9
  obtain⟨rfl,j⟩:=id h9
  have H9:=hid h9
  have R9:=hid (F1.rbk h9)
  obtain⟨r0,r1⟩:=R9.c2
  have g0:=R9.f 0
  have g1:=R9.f 1
  clear h9 j
  go_wp2
  obtain⟨t0,t1⟩:=(R9.put2 (.int .i64 (lvR (listed E l 5 34 35 i))) (.bool (tgR (listed E l 5 34 35 i)))).c2
  exact bodyPost_ret (v:= .agg #[.int .i64 (lvR (listed E l 5 34 35 i)),.bool (tgR (listed E l 5 34 35 i))]) (by simp[results,Tryz.results235,go_sem,t0,t1]) rfl (HXX.out _ _ (F1.res H9.out _ _))
 ·rw[if_neg h1]at HXX⊢
  obtain⟨c,hcc⟩:∃c,kd l (i+1)=c:=⟨_,rfl⟩
  rw[hcc]at HFO h1
  obtain⟨q1,q2⟩:=ne_facts h1
  have y:z.map (·.1)=zb++G1 zb.length []:=by rw[hzb,G1_nil,List.append_nil]
  have HW:=hid (fun W2 s2 F=>word_any (v:=v) (z:=z) (r:=r) (cap:=cap) (i:=i) 1 0 s0 zb [] (.slice none 0 0) w0.heap.size p W2 hi hl hc (by omega) s2 F (.inl ⟨rfl,rfl⟩) y)
  clear h1 hcc y
  clear hst hB hrw hzb hz hi hl hc hq hN hP hR hXb hE hOk h0 hXX
  rw[hW]at c0 c1 c2 f1 n0 n1 n2 n3 n4 p0 p1 p2 p3 p4 r0 r1 g0 g1
  go_enter Tryz.func235,Tryz.ntmps235
  go_wp2_with fail
  rw[←hW]
  clear c0 c1 c2 f1 n0 n1 n2 n3 n4 p0 p1 p2 p3 p4 r0 r1 g0 g1 hW
  refine HFO.mono ?_
  rintro e w1 ⟨rfl,b1⟩
  have F1:=hid (F0.quiet b1)
  clear b1
  obtain⟨c0,c1,c2⟩:=F1.st.c
  have f1:=F1.st.f 1
  obtain⟨n0,n1,n2,n3,n4⟩:=F1.nb.bk.c5
  obtain⟨p0,p1,p2,p3,p4⟩:=F1.pb.bk.c5
  obtain⟨r0,r1⟩:=F1.rb.bk.c2
  have g0:=F1.rb.bk.f 0
  have g1:=F1.rb.bk.f 1
  go_wp2_with fail
  clear c0 c1 c2 f1 n0 n1 n2 n3 n4 p0 p1 p2 p3 p4 r0 r1 g0 g1
  refine(show Calls _ _ _ _ (Res w0 a l.length cap zb (Xq w0.heap.size w0.heap.size) v z r w1 (pe.word l 1 i))from HW.out _ F1.st F1.st.lt).mono ?_
  rintro e w9 h9
  obtain⟨rfl,j⟩:=id h9
  have H9:=hid h9
  have R9:=hid (F1.rbk h9)
  obtain⟨r0,r1⟩:=R9.c2
  have g0:=R9.f 0
  have g1:=R9.f 1
  clear h9 j
  go_wp2
  obtain⟨t0,t1⟩:=(R9.put2 (.int .i64 (lvR (pe.word l 1 i))) (.bool (tgR (pe.word l 1 i)))).c2
  exact bodyPost_ret (v:= .agg #[.int .i64 (lvR (pe.word l 1 i)),.bool (tgR (pe.word l 1 i))]) (by simp[results,Tryz.results235,go_sem,t0,t1]) rfl (HXX.out _ _ (F1.res H9.out _ _))
set_option maxHeartbeats 3200000 in
theorem builtin_any(hE:CallE w0 a cap l E i0)(hOk:∀p i,i≤l.length→Ok M l i (E p i))(s0:ByteArray)(zb:List Nd)(p:Ps)(w:World)(h0:i0≤i+1)(hi:i<l.length)(hl:l.length≤50000)(hc:tk.Lies w0.heap.size w0 a l)(hz:z.length+2*(l.length-i)≤200000)(hst:St w0 a l.length cap i v z r w)(hzb:z.map (·.1)=zb):
  Calls Tryz.prog 237 #[.pointer (some ⟨w0.heap.size,0,none⟩),.agg #[.int .i64 8,.int .i64 0,.string s0,.string ⟨#[]⟩,.slice none 0 0],.agg #[.int .i64 p.l,.bool p.d,.bool p.i,.bool p.g,.bool p.s]] w (Res w0 a l.length cap zb (X0 w0.heap.size) v z r w (if isLen (tx l i)=true∧¬kd l (i+1)=32 then pe.word l 8 i else listed E l 8 32 33 i)):=by
 have hq:w0.heap.size<w.heap.size:=hst.lt
 have hrw:Rw w0.heap.size w0.heap.size (.slice none 0 0) (G2 zb.length []) v z r w:= .inl ⟨rfl,rfl⟩
 have hXX:∀(e:Ending) (w':World),Res w0 a l.length cap zb (Xq w0.heap.size w0.heap.size) v z r w (if isLen (tx l i)=true∧¬kd l (i+1)=32 then pe.word l 8 i else listed E l 8 32 33 i) e w'→Res w0 a l.length cap zb (X0 w0.heap.size) v z r w (if isLen (tx l i)=true∧¬kd l (i+1)=32 then pe.word l 8 i else listed E l 8 32 33 i) e w':=fun e w' h=>h.wide fun k _ h=>by rcases h with h|h<;>exact h
 have HXX:=hid hXX
 obtain⟨W,hW⟩:∃W,W=((w.alloc (.cells #[.int .i64 8,.int .i64 0,.string s0,.string ⟨#[]⟩,.slice none 0 0] 33)).alloc (.cells #[.int .i64 p.l,.bool p.d,.bool p.i,.bool p.g,.bool p.s] 44)).alloc (.cells #[.int .i64 0,.bool false] 82):=⟨_,rfl⟩
 have hB:Below w.heap.size w W:=by rw[hW];exact(((Below.refl _ _).alloc (Nat.le_refl _) _).alloc (by simp) _).alloc (by simp;omega) _
 have hN:Bk w.heap.size #[.int .i64 8,.int .i64 0,.string s0,.string ⟨#[]⟩,.slice none 0 0] 33 W:=by rw[hW];exact((Bk.new _ _ _).alloc _).alloc _
 have hP:Bk (w.heap.size+1) #[.int .i64 p.l,.bool p.d,.bool p.i,.bool p.g,.bool p.s] 44 W:=by
  rw[hW]
  have:=(Bk.new (w.alloc (.cells #[.int .i64 8,.int .i64 0,.string s0,.string ⟨#[]⟩,.slice none 0 0] 33)) #[.int .i64 p.l,.bool p.d,.bool p.i,.bool p.g,.bool p.s] 44).alloc (.cells #[.int .i64 0,.bool false] 82)
  simpa using this
 have hR:Bk (w.heap.size+1+1) #[.int .i64 0,.bool false] 82 W:=by
  rw[hW]
  have:=Bk.new ((w.alloc (.cells #[.int .i64 8,.int .i64 0,.string s0,.string ⟨#[]⟩,.slice none 0 0] 33)).alloc (.cells #[.int .i64 p.l,.bool p.d,.bool p.i,.bool p.g,.bool p.s] 44)) #[.int .i64 0,.bool false] 82
  simpa using this
 have F0:=hid (Fx.start hst (xq_lt hst.lt hq) hN hP hR hB)
 have K:=hid (hrw.quiet hB)
 have HQ:=hid hq
 have HLT:=hid hst.lt
 have J:=hid hB
 have HZB:=hid hzb
 have HC:=hid hc
 have HL:=hid hl
 have HI:=hid hi
 have HZ:=hid hz
 have hXb:Xq w0.heap.size w0.heap.size w0.heap.size:=Or.inl rfl
 have HXB:=hid hXb
 have hib:i≤50000:=by omega
 obtain⟨c0,c1,c2⟩:=F0.st.c
 have f1:=F0.st.f 1
 obtain⟨n0,n1,n2,n3,n4⟩:=F0.nb.bk.c5
 obtain⟨p0,p1,p2,p3,p4⟩:=F0.pb.bk.c5
 obtain⟨r0,r1⟩:=F0.rb.bk.c2
 have g0:=F0.rb.bk.f 0
 have g1:=F0.rb.bk.f 1
 have HFO:=hid (fun W2 (s2:St w0 a l.length cap i v z r W2)=>follower_any W2 s2 hc (by omega) (Nat.le_of_lt hi))
 have HNX:=hid (next_any W F0.st hc (by omega) (Nat.le_of_lt hi))
 have F:z.map (·.1)=zb++G1 zb.length []:=by rw[hzb,G1_nil,List.append_nil]
 have HW:=hid (fun W2 s2 I=>word_any (v:=v) (z:=z) (r:=r) (cap:=cap) (i:=i) 8 0 s0 zb [] (.slice none 0 0) w0.heap.size p W2 hi hl hc (by omega) s2 I (.inl ⟨rfl,rfl⟩) F)
 have HCA:=hid (fun W2 s2=>call_any (v:=v) (z:=z) (r:=r) (cap:=cap) (i:=i) hE hOk 8 s0 zb p W2 h0 hi hl hc hz s2 hzb)
 have hfs:=fld_s
 obtain⟨x,hx⟩:∃x,tx l i=x:=⟨_,rfl⟩
 rw[hx]at HNX HXX⊢
 obtain⟨c,hcc⟩:∃c,kd l (i+1)=c:=⟨_,rfl⟩
 rw[hcc]at HFO HXX⊢
 clear F hx hcc
 cases hlen:isLen x with
 |false=>
  rw[hlen]at HXX
  rw[if_neg (by simp)]at HXX⊢
  have y:(x.toList==[108,101,110,103,116,104])=false:=hlen
  have G:¬x.toList=[108,101,110,103,116,104]:=by simpa using y
  clear hlen
  clear hst hB hrw hzb hz hi hl hc hq hN hP hR hXb hE hOk h0 hXX
  rw[hW]at c0 c1 c2 f1 n0 n1 n2 n3 n4 p0 p1 p2 p3 p4 r0 r1 g0 g1
  go_enter Tryz.func237,Tryz.ntmps237
  go_wp2_with fail
  rw[←hW]
  clear c0 c1 c2 f1 n0 n1 n2 n3 n4 p0 p1 p2 p3 p4 r0 r1 g0 g1 hW
  refine HNX.mono ?_
  rintro e w1 ⟨rfl,b1⟩
  have F1:=hid (F0.quiet b1)
  clear b1
  obtain⟨c0,c1,c2⟩:=F1.st.c
  have f1:=F1.st.f 1
  obtain⟨n0,n1,n2,n3,n4⟩:=F1.nb.bk.c5
  obtain⟨p0,p1,p2,p3,p4⟩:=F1.pb.bk.c5
  obtain⟨r0,r1⟩:=F1.rb.bk.c2
  have g0:=F1.rb.bk.f 0
  have g1:=F1.rb.bk.f 1
  go_wp2_with fail
  clear c0 c1 c2 f1 n0 n1 n2 n3 n4 p0 p1 p2 p3 p4 r0 r1 g0 g1
  refine((HCA.out _ F1.st).mono fun e w' h=>h.wide (Y:=Xq w0.heap.size w0.heap.size) (fun k _ h=>Or.inl h)).mono ?_
  rintro e w9 h9
  obtain⟨rfl,j⟩:=id h9
  have H9:=hid h9
  have R9:=hid (F1.rbk h9)
  obtain⟨r0,r1⟩:=R9.c2
  have g0:=R9.f 0
  have g1:=R9.f 1
  clear h9 j
  go_wp2
  obtain⟨t0,t1⟩:=(R9.put2 (.int .i64 (lvR (listed E l 8 32 33 i))) (.bool (tgR (listed E l 8 32 33 i)))).c2
  exact bodyPost_ret (v:= .agg #[.int .i64 (lvR (listed E l 8 32 33 i)),.bool (tgR (listed E l 8 32 33 i))]) (by simp[results,Tryz.results237,go_sem,t0,t1]) rfl (HXX.out _ _ (F1.res H9.out _ _))
 |true=>
  rw[hlen]at HXX
  have y:(x.toList==[108,101,110,103,116,104])=true:=hlen
  have G:x.toList=[108,101,110,103,116,104]:=by simpa using y
  clear hlen
  by_cases h32:c=32
  ·rw[if_neg (by simp[h32])]at HXX⊢
   obtain⟨q1,q2⟩:=eq_facts h32
   clear h32
   clear hst hB hrw hzb hz hi hl hc hq hN hP hR hXb hE hOk h0 hXX
   rw[hW]at c0 c1 c2 f1 n0 n1 n2 n3 n4 p0 p1 p2 p3 p4 r0 r1 g0 g1
   go_enter Tryz.func237,Tryz.ntmps237
   go_wp2_with fail
   rw[←hW]
   clear c0 c1 c2 f1 n0 n1 n2 n3 n4 p0 p1 p2 p3 p4 r0 r1 g0 g1 hW
   refine HNX.mono ?_
   rintro e w1 ⟨rfl,b1⟩
   have F1:=hid (F0.quiet b1)
   clear b1
   go_wp2_with fail
   refine(HFO.out _ F1.st).mono ?_
   rintro e w2 ⟨rfl,b2⟩
   have F2:=hid (F1.quiet b2)
   clear b2
   obtain⟨c0,c1,c2⟩:=F2.st.c
   have f1:=F2.st.f 1
   obtain⟨n0,n1,n2,n3,n4⟩:=F2.nb.bk.c5
   obtain⟨p0,p1,p2,p3,p4⟩:=F2.pb.bk.c5
   obtain⟨r0,r1⟩:=F2.rb.bk.c2
   have g0:=F2.rb.bk.f 0
   have g1:=F2.rb.bk.f 1
   go_wp2_with fail
   clear c0 c1 c2 f1 n0 n1 n2 n3 n4 p0 p1 p2 p3 p4 r0 r1 g0 g1
   refine((HCA.out _ F2.st).mono fun e w' h=>h.wide (Y:=Xq w0.heap.size w0.heap.size) (fun k _ h=>Or.inl h)).mono ?_
   rintro e w9 h9
   obtain⟨rfl,j⟩:=id h9
   have H9:=hid h9
   have R9:=hid (F2.rbk h9)
   obtain⟨r0,r1⟩:=R9.c2
   have g0:=R9.f 0
   have g1:=R9.f 1
   clear h9 j
   go_wp2
   obtain⟨t0,t1⟩:=(R9.put2 (.int .i64 (lvR (listed E l 8 32 33 i))) (.bool (tgR (listed E l 8 32 33 i)))).c2
   exact bodyPost_ret (v:= .agg #[.int .i64 (lvR (listed E l 8 32 33 i)),.bool (tgR (listed E l 8 32 33 i))]) (by simp[results,Tryz.results237,go_sem,t0,t1]) rfl (HXX.out _ _ (F2.res H9.out _ _))
  ·rw[if_pos ⟨rfl,h32⟩]at HXX⊢
   obtain⟨q1,q2⟩:=ne_facts h32
   clear h32
   clear hst hB hrw hzb hz hi hl hc hq hN hP hR hXb hE hOk h0 hXX
   rw[hW]at c0 c1 c2 f1 n0 n1 n2 n3 n4 p0 p1 p2 p3 p4 r0 r1 g0 g1
   go_enter Tryz.func237,Tryz.ntmps237
   go_wp2_with fail
   rw[←hW]
   clear c0 c1 c2 f1 n0 n1 n2 n3 n4 p0 p1 p2 p3 p4 r0 r1 g0 g1 hW
   refine HNX.mono ?_
   rintro e w1 ⟨rfl,b1⟩
   have F1:=hid (F0.quiet b1)
   clear b1
   go_wp2_with fail
   refine(HFO.out _ F1.st).mono ?_
   rintro e w2 ⟨rfl,b2⟩
   have F2:=hid (F1.quiet b2)
   clear b2
   obtain⟨c0,c1,c2⟩:=F2.st.c
   have f1:=F2.st.f 1
   obtain⟨n0,n1,n2,n3,n4⟩:=F2.nb.bk.c5
   obtain⟨p0,p1,p2,p3,p4⟩:=F2.pb.bk.c5
   obtain⟨r0,r1⟩:=F2.rb.bk.c2
   have g0:=F2.rb.bk.f 0
   have g1:=F2.rb.bk.f 1
   go_wp2_with fail
   clear c0 c1 c2 f1 n0 n1 n2 n3 n4 p0 p1 p2 p3 p4 r0 r1 g0 g1
   refine(show Calls _ _ _ _ (Res w0 a l.length cap zb (Xq w0.heap.size w0.heap.size) v z r w2 (pe.word l 8 i))from HW.out _ F2.st F2.st.lt).mono ?_
   rintro e w9 h9
   obtain⟨rfl,j⟩:=id h9
   have H9:=hid h9
   have R9:=hid (F2.rbk h9)
   obtain⟨r0,r1⟩:=R9.c2
   have g0:=R9.f 0
   have g1:=R9.f 1
   clear h9 j
   go_wp2
   obtain⟨t0,t1⟩:=(R9.put2 (.int .i64 (lvR (pe.word l 8 i))) (.bool (tgR (pe.word l 8 i)))).c2
   exact bodyPost_ret (v:= .agg #[.int .i64 (lvR (pe.word l 8 i)),.bool (tgR (pe.word l 8 i))]) (by simp[results,Tryz.results237,go_sem,t0,t1]) rfl (HXX.out _ _ (F2.res H9.out _ _))
end
end Go.Proofs.YtebjmdpkobhcbaaGreatDoor.pr
