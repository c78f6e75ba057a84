/- A part. -/
import Derived.Test.YtebjmdpkobhcbaaGreatDoorRGPi
import Derived.Test.YtebjmdpkobhcbaaGreatDoorRGLx
namespace Go.Proofs.YtebjmdpkobhcbaaGreatDoor.pe
open Go.RowKit
open nd (Nd)
open tk (Tk)
open ps (Ps posOk top)
open lex (lexF lexZ gapZ kindAt)
set_option linter.unusedVariables false
set_option linter.unusedSimpArgs false
theorem lexZ_sz(s:ByteArray):∀n i prev l,s.size-i<=n->lexZ s i prev= .inr l->(∀t∈l,t.s.size<=s.size)/\l.length<=n:=by
 intro n
 induction n with
 |zero=>
  intro i prev l h hl
  rw[lexZ]at hl
  have hg:=(lex.gap_bd s i).1
  rw[dif_neg (by omega)]at hl
  injection hl with hl
  subst hl
  exact⟨fun t ht=>by simp at ht,Nat.le_refl _⟩
 |succ n ih=>
  intro i prev l h hl
  rw[lexZ]at hl
  have hg:=(lex.gap_bd s i).1
  by_cases h1:gapZ s i<s.size
  ·rw[dif_pos h1]at hl
   by_cases h2:(gapZ s i:Int)<(kindAt s (gapZ s i) prev).2
   ·rw[dif_pos h2]at hl
    cases hr:lexZ s (kindAt s (gapZ s i) prev).2.toNat (kindAt s (gapZ s i) prev).1 with
    |inl f=>rw[hr]at hl;cases hl
    |inr l'=>
     rw[hr]at hl
     injection hl with hl
     subst hl
     obtain⟨a1,a2⟩:=ih _ _ _ (by omega) hr
     refine⟨fun t ht=> ?_,by simp;omega⟩
     rcases List.mem_cons.1 ht with rfl|ht
     ·show(s.extract _ _).size<=s.size
      rw[ByteArray.size_extract]
      omega
     ·exact a1 t ht
   ·rw[dif_neg h2]at hl;cases hl
  ·rw[dif_neg h1]at hl
   injection hl with hl
   subst hl
   exact⟨fun t ht=>by simp at ht,Nat.zero_le _⟩
theorem lexF_sz(s:ByteArray):(∀t∈(lexF s).1,t.s.size<=3000)/\(lexF s).1.length<=3000:=by
 unfold lexF
 split
 ·exact⟨fun t ht=>by simp at ht,Nat.zero_le _⟩
 ·next h=>
  cases hr:lexZ s 0 0 with
  |inl f=>exact⟨fun t ht=>by simp at ht,Nat.zero_le _⟩
  |inr l=>
   obtain⟨a1,a2⟩:=lexZ_sz s s.size 0 0 l (by omega) hr
   exact⟨fun t ht=>by have:=a1 t ht;omega,by show l.length<=3000;omega⟩
def readO(L:List Tk)(LK LA:Int):Out:=
 if LK=0 then
  (if(parse L top).k=0 then
   (if(parse L top).n<L.length then⟨[],0,3,place L (parse L top).n⟩else⟨(parse L top).t,0,0,0⟩)
  else⟨[],0,(parse L top).k,(parse L top).a⟩)
 else⟨[],0,LK,LA⟩
def readF(s:ByteArray):Out:=readO (lexF s).1 (lexF s).2.1 (lexF s).2.2
theorem parse_n{l:List Tk}{p:Ps}{M:Nat}(hM:∀t∈l,t.s.size<=M):(parse l p).n<=l.length:=by
 unfold parse
 split
 ·split
  ·next h=>
   obtain⟨-,h3,-⟩:=toks_len h
   have:=ex_ok hM (by omega) (l.length+1) p 0 (Nat.zero_le _)
   cases hr:ex l (l.length+1) p 0 with
   |bad j=>exact Nat.zero_le _
   |ok lv tg t j=>
    rw[hr]at this
    unfold finish
    simp only
    split
    ·exact this.2.1
    ·exact Nat.zero_le _
  ·exact Nat.zero_le _
 ·exact Nat.zero_le _
end Go.Proofs.YtebjmdpkobhcbaaGreatDoor.pe
namespace Go.Proofs.YtebjmdpkobhcbaaGreatDoor.pr
open Lib (hid)
open Go.ChangeShapes Go.WideShapes Go.ChangeAt Go.RowKit
open tk (Tk)
open nd (Nd PT KidV IBlk OwnI shN makeT)
open ps (Ps B5 posOk kidI top)
open pe
open spell (Held)
open lex (lexF LexOut)
set_option linter.unusedVariables false
set_option linter.unusedSimpArgs false
set_option maxRecDepth 20000
def ROut(O:pe.Out)(w:World)(e:Ending)(w':World):Prop:=
 ∃v z r,e= .returned (.tuple #[v,.agg #[.int .i64 O.k,.int .i64 O.a]])/\z.map (·.1)=O.t/\PT w.heap.size v z r w'/\Below w.heap.size w w'
theorem rout_bad{k a:Int}{w w':World}{e:Ending}{n:Nat}(he:e= .returned (.tuple #[.slice none 0 0,.agg #[.int .i64 k,.int .i64 a]]))(hb:Below w.heap.size w w'):ROut ⟨[],n,k,a⟩ w e w':=
 ⟨.slice none 0 0,[],fun i=>i,he,rfl,PT.nil _ _,hb⟩
theorem pt_low{B g:Nat}{v:Value}{z:List (Nd×Value)}{r:Nat->Nat}{w:World}(h:PT B v z r w)(hg:g<B)(j:Nat)(u:Value):PT B v z r (w.setCell ⟨g,j,none⟩ u):=by
 have hb:∀k,k≠g->(w.setCell ⟨g,j,none⟩ u).heap[k]? =w.heap[k]? :=fun k hk=>heap_setCell_other w ⟨g,j,none⟩ k u hk
 refine⟨ownsRow_setCell_below h.own (a:=⟨g,j,none⟩) hg u,fun i hi=> ?_,h.off,h.asc,fun i hi=>by simpa using h.lt i hi⟩
 rcases h.kid i hi with h1|⟨cap,e1,e2,e3,e4⟩
 ·exact .inl h1
 ·exact .inr ⟨cap,e1,e2.of_block (hb _ (by omega)),e3,e4⟩
theorem below_drew2{B:Nat}{w w1:World}(h:Below B w w1):Below B w w1.drew:=⟨h.os,h.tape,h.output,h.size,h.block⟩
set_option maxHeartbeats 6400000 in
theorem impl_read(s:ByteArray)(w:World)(hs:s.size<=1048576)(hh:Held w):
  Calls Tryz.prog 11 #[.string s] w (ROut (readF s) w):=by
 obtain⟨W,hW⟩:∃W,W=w.alloc (.cells #[.int .i64 0,.int .i64 0] 28):=⟨_,rfl⟩
 have hB:Below w.heap.size w W:=by rw[hW];exact(Below.refl _ _).alloc (Nat.le_refl _) _
 have R0:=hid (show Bk w.heap.size #[.int .i64 0,.int .i64 0] 28 W by rw[hW];exact Bk.new _ _ _)
 have B0:=hid hB
 have HH:=hid hh
 have HLX:=hid (lex.impl_lex s W hs (hh.below hB))
 obtain⟨Q,V⟩:=lexF_sz s
 unfold LexOut at HLX
 unfold readF
 obtain⟨L,hL⟩:∃L,(lexF s).1=L:=⟨_,rfl⟩
 obtain⟨LK,hLK⟩:∃LK,(lexF s).2.1=LK:=⟨_,rfl⟩
 obtain⟨LA,hLA⟩:∃LA,(lexF s).2.2=LA:=⟨_,rfl⟩
 rw[hL,hLK,hLA]at HLX|-
 rw[hL]at Q V
 have N:=hid (show∀t∈L,t.s.size<=1048576 from fun t ht=>by have:=Q t ht;omega)
 have ac:=hid V
 clear hB hh hs hL hLK hLA Q V
 have hpre:True:=trivial
 by_cases hk:LK=0
 case neg=>
  rw[show readO L LK LA=⟨[],0,LK,LA⟩from if_neg hk]
  obtain⟨q1,q2⟩:=ne_facts hk
  clear hk
  go_enter Tryz.func11,Tryz.ntmps11
  go_wp2_with fail
  rw[<-hW]
  clear hW
  refine HLX.mono ?_
  rintro e w3 ⟨U,rfl,b3,o3⟩
  obtain⟨a,c,hlv⟩:=o3.form
  subst hlv
  obtain⟨W3,o⟩:∃W3,W3=w3.alloc (.cells #[.int .i64 LK,.int .i64 LA] 28):=⟨_,rfl⟩
  have y:Below w3.heap.size w3 W3:=by rw[o];exact(Below.refl _ _).alloc (Nat.le_refl _) _
  have R3:=hid ((R0.keep b3).keep y)
  have Q3:=hid (show Bk w3.heap.size #[.int .i64 LK,.int .i64 LA] 28 W3 by rw[o];exact Bk.new _ _ _)
  have B3:=hid ((B0.trans (b3.mono B0.size)).trans (y.mono (Nat.le_trans B0.size b3.size)))
  have G:=hid (lies_on (o3.lies rfl) y)
  have K:=hid (show tk.Lies w3.heap.size w3 a L from o3.lies rfl)
  have A:=hid y
  have HQG:=hid (show w.heap.size<=w3.heap.size from Nat.le_trans B0.size b3.size)
  have HNE:=hid (show¬w.heap.size=w3.heap.size by have:=R0.lt;have:=b3.size;omega)
  clear b3 y o3
  obtain⟨r0,r1⟩:=R3.c2
  have g0:=R3.f 0
  have g1:=R3.f 1
  obtain⟨s0,s1⟩:=Q3.c2
  rw[o]at r0 r1 g0 g1 s0 s1
  go_wp2
  rw[<-o]at r0 r1 g0 g1 s0 s1|-
  clear o
  go_region
  go_wp2
  obtain⟨t0,t1⟩:=(R3.put2 (.int .i64 LK) (.int .i64 LA)).c2
  exact bodyPost_ret (v:= .tuple #[.slice none 0 0,.agg #[.int .i64 LK,.int .i64 LA]]) (by simp[results,Tryz.results11,go_sem,t0,t1]) rfl (rout_bad rfl (below_put2 (below_drew2 B3.out) (Nat.le_refl _) _ _))
 case pos=>
  subst hk
  have HPE:=hid (fun a cap W2 (P:tk.Lies W2.heap.size W2 a L) hh2=>impl_parse L a cap top W2 P (by have:=ac.out;omega) N.out hh2)
  have HPL:=hid (fun a cap i W2 (P:tk.Lies W2.heap.size W2 a L) hi=>impl_place L a cap i W2 P (by have:=ac.out;omega) hi N.out)
  have hpn:=parse_n (p:=top) N.out
  unfold readO
  rw[if_pos rfl]
  obtain⟨O,hO⟩:∃O,parse L top=O:=⟨_,rfl⟩
  rw[hO]at HPE hpn|-
  obtain⟨ot,on,ok,oa⟩:=O
  simp only at hpn|-
  have HON:=hid hpn
  clear hO
  by_cases hk2:ok=0
  case neg=>
   rw[if_neg hk2]
   obtain⟨q1,q2⟩:=ne_facts hk2
   clear hk2 hpn
   go_enter Tryz.func11,Tryz.ntmps11
   go_wp2_with fail
   rw[<-hW]
   clear hW
   refine HLX.mono ?_
   rintro e w3 ⟨U,rfl,b3,o3⟩
   obtain⟨a,c,hlv⟩:=o3.form
   subst hlv
   obtain⟨W3,o⟩:∃W3,W3=w3.alloc (.cells #[.int .i64 0,.int .i64 LA] 28):=⟨_,rfl⟩
   have y:Below w3.heap.size w3 W3:=by rw[o];exact(Below.refl _ _).alloc (Nat.le_refl _) _
   have R3:=hid ((R0.keep b3).keep y)
   have Q3:=hid (show Bk w3.heap.size #[.int .i64 0,.int .i64 LA] 28 W3 by rw[o];exact Bk.new _ _ _)
   have B3:=hid ((B0.trans (b3.mono B0.size)).trans (y.mono (Nat.le_trans B0.size b3.size)))
   have G:=hid (lies_on (o3.lies rfl) y)
   have K:=hid (show tk.Lies w3.heap.size w3 a L from o3.lies rfl)
   have A:=hid y
   have HQG:=hid (show w.heap.size<=w3.heap.size from Nat.le_trans B0.size b3.size)
   have HNE:=hid (show¬w.heap.size=w3.heap.size by have:=R0.lt;have:=b3.size;omega)
   clear b3 y o3
   obtain⟨s0,s1⟩:=Q3.c2
   rw[o]at s0 s1
   go_wp2_with (go_at_call 19;rw[<-o];refine(_root_.Go.Proofs.YtebjmdpkobhcbaaGreatDoor.ps.impl_top _).mono ?_;rintro e w4 ⟨rfl,b4⟩;have R4:=hid (R3.keep b4);have Q4:=hid (Q3.keep b4);have B4:=hid (B3.trans (b4.mono B3.size));have LQ:=hid (lies_on G.out b4);have H:=hid (show w3.heap.size<w4.heap.size from Nat.lt_of_lt_of_le Q3.lt b4.size);have F:=hid (A.trans (b4.mono A.size));clear b4)
   clear o s0 s1
   refine(HPE.out a c _ LQ.out (HH.below B4.out)).mono ?_
   rintro e w5 ⟨v5,z5,r5,rfl,D,C,b5⟩
   have R5:=hid (R4.keep b5)
   have Q5:=hid (Q4.keep b5)
   have B5:=hid (B4.trans (b5.mono B4.size))
   have Z:=hid C
   have Z5:=hid D
   have J:=hid (F.trans (b5.mono F.size))
   have ab:=hid (show w4.heap.size<=w5.heap.size from b5.size)
   clear b5 D C
   obtain⟨r0,r1⟩:=R5.c2
   have g0:=R5.f 0
   have g1:=R5.f 1
   obtain⟨s0,s1⟩:=Q5.c2
   have u0:=Q5.f
   obtain⟨ad,aa⟩:=(Q5.put2 (.int .i64 ok) (.int .i64 oa)).c2
   have R6:=hid ((R5.oth HNE.out 0 (.int .i64 ok)).oth HNE.out 1 (.int .i64 oa))
   have af:=R6.c2
   have ag:=R6.f
   have B6:=hid (below_put2 B5.out HQG.out (.int .i64 ok) (.int .i64 oa))
   go_wp2
   go_region
   go_wp2
   obtain⟨t0,t1⟩:=(R6.put2 (.int .i64 ok) (.int .i64 oa)).c2
   exact bodyPost_ret (v:= .tuple #[.slice none 0 0,.agg #[.int .i64 ok,.int .i64 oa]]) (by simp[results,Tryz.results11,go_sem,t0,t1]) rfl (rout_bad rfl (below_put2 (below_drew2 B6.out) (Nat.le_refl _) _ _))
  case pos=>
   subst hk2
   rw[if_pos rfl]
   obtain⟨NL,hNL⟩:∃NL,L.length=NL:=⟨_,rfl⟩
   by_cases hrest:on<L.length
   ·rw[if_pos hrest]
    obtain⟨PV,hPV⟩:∃PV,place L on=PV:=⟨_,rfl⟩
    have HPV:=hid hPV
    rw[hPV]
    have ae:(on:Int)<(L.length:Int):=by omega
    clear hpn hrest hNL hPV
    go_enter Tryz.func11,Tryz.ntmps11
    go_wp2_with fail
    rw[<-hW]
    clear hW
    refine HLX.mono ?_
    rintro e w3 ⟨U,rfl,b3,o3⟩
    obtain⟨a,c,hlv⟩:=o3.form
    subst hlv
    obtain⟨W3,o⟩:∃W3,W3=w3.alloc (.cells #[.int .i64 0,.int .i64 LA] 28):=⟨_,rfl⟩
    have y:Below w3.heap.size w3 W3:=by rw[o];exact(Below.refl _ _).alloc (Nat.le_refl _) _
    have R3:=hid ((R0.keep b3).keep y)
    have Q3:=hid (show Bk w3.heap.size #[.int .i64 0,.int .i64 LA] 28 W3 by rw[o];exact Bk.new _ _ _)
    have B3:=hid ((B0.trans (b3.mono B0.size)).trans (y.mono (Nat.le_trans B0.size b3.size)))
    have G:=hid (lies_on (o3.lies rfl) y)
    have K:=hid (show tk.Lies w3.heap.size w3 a L from o3.lies rfl)
    have A:=hid y
    have HQG:=hid (show w.heap.size<=w3.heap.size from Nat.le_trans B0.size b3.size)
    have HNE:=hid (show¬w.heap.size=w3.heap.size by have:=R0.lt;have:=b3.size;omega)
    clear b3 y o3
    obtain⟨s0,s1⟩:=Q3.c2
    rw[o]at s0 s1
    go_wp2_with (go_at_call 19;rw[<-o];refine(_root_.Go.Proofs.YtebjmdpkobhcbaaGreatDoor.ps.impl_top _).mono ?_;rintro e w4 ⟨rfl,b4⟩;have R4:=hid (R3.keep b4);have Q4:=hid (Q3.keep b4);have B4:=hid (B3.trans (b4.mono B3.size));have LQ:=hid (lies_on G.out b4);have H:=hid (show w3.heap.size<w4.heap.size from Nat.lt_of_lt_of_le Q3.lt b4.size);have F:=hid (A.trans (b4.mono A.size));clear b4)
    clear o s0 s1
    refine(HPE.out a c _ LQ.out (HH.below B4.out)).mono ?_
    rintro e w5 ⟨v5,z5,r5,rfl,D,C,b5⟩
    have R5:=hid (R4.keep b5)
    have Q5:=hid (Q4.keep b5)
    have B5:=hid (B4.trans (b5.mono B4.size))
    have Z:=hid C
    have Z5:=hid D
    have J:=hid (F.trans (b5.mono F.size))
    have ab:=hid (show w4.heap.size<=w5.heap.size from b5.size)
    clear b5 D C
    obtain⟨s0,s1⟩:=Q5.c2
    have u0:=Q5.f
    obtain⟨ad,aa⟩:=(Q5.put2 (.int .i64 0) (.int .i64 oa)).c2
    have R6:=hid ((R5.oth HNE.out 0 (.int .i64 0)).oth HNE.out 1 (.int .i64 oa))
    have B6:=hid (below_put2 B5.out HQG.out (.int .i64 0) (.int .i64 oa))
    have L6:=hid (show tk.Lies ((w5.setCell ⟨w3.heap.size,0,none⟩ (.int .i64 0)).setCell ⟨w3.heap.size,1,none⟩ (.int .i64 oa)).heap.size _ a L from(K.keep (below_put2 J.out (Nat.le_refl _) (.int .i64 0) (.int .i64 oa)) (Nat.le_refl _)).up (by simp;exact J.size))
    go_wp2_with fail
    refine(HPL.out a c on _ L6.out HON.out).mono ?_
    rw[HPV.out]
    rintro e w7 ⟨rfl,b7⟩
    have R7:=hid (R6.keep b7)
    have B7:=hid (B6.trans (b7.mono B6.size))
    clear b7
    obtain⟨r0,r1⟩:=R7.c2
    have g0:=R7.f 0
    have g1:=R7.f 1
    go_wp2
    obtain⟨t0,t1⟩:=(R7.put2 (.int .i64 3) (.int .i64 PV)).c2
    exact bodyPost_ret (v:= .tuple #[.slice none 0 0,.agg #[.int .i64 3,.int .i64 PV]]) (by simp[results,Tryz.results11,go_sem,t0,t1]) rfl (rout_bad rfl (below_put2 B7.out (Nat.le_refl _) _ _))
   ·rw[if_neg hrest]
    have ae:¬(on:Int)<(L.length:Int):=by omega
    clear hpn hrest hNL
    go_enter Tryz.func11,Tryz.ntmps11
    go_wp2_with fail
    rw[<-hW]
    clear hW
    refine HLX.mono ?_
    rintro e w3 ⟨U,rfl,b3,o3⟩
    obtain⟨a,c,hlv⟩:=o3.form
    subst hlv
    obtain⟨W3,o⟩:∃W3,W3=w3.alloc (.cells #[.int .i64 0,.int .i64 LA] 28):=⟨_,rfl⟩
    have y:Below w3.heap.size w3 W3:=by rw[o];exact(Below.refl _ _).alloc (Nat.le_refl _) _
    have R3:=hid ((R0.keep b3).keep y)
    have Q3:=hid (show Bk w3.heap.size #[.int .i64 0,.int .i64 LA] 28 W3 by rw[o];exact Bk.new _ _ _)
    have B3:=hid ((B0.trans (b3.mono B0.size)).trans (y.mono (Nat.le_trans B0.size b3.size)))
    have G:=hid (lies_on (o3.lies rfl) y)
    have K:=hid (show tk.Lies w3.heap.size w3 a L from o3.lies rfl)
    have A:=hid y
    have HQG:=hid (show w.heap.size<=w3.heap.size from Nat.le_trans B0.size b3.size)
    have HNE:=hid (show¬w.heap.size=w3.heap.size by have:=R0.lt;have:=b3.size;omega)
    clear b3 y o3
    obtain⟨s0,s1⟩:=Q3.c2
    rw[o]at s0 s1
    go_wp2_with (go_at_call 19;rw[<-o];refine(_root_.Go.Proofs.YtebjmdpkobhcbaaGreatDoor.ps.impl_top _).mono ?_;rintro e w4 ⟨rfl,b4⟩;have R4:=hid (R3.keep b4);have Q4:=hid (Q3.keep b4);have B4:=hid (B3.trans (b4.mono B3.size));have LQ:=hid (lies_on G.out b4);have H:=hid (show w3.heap.size<w4.heap.size from Nat.lt_of_lt_of_le Q3.lt b4.size);have F:=hid (A.trans (b4.mono A.size));clear b4)
    clear o s0 s1
    refine(HPE.out a c _ LQ.out (HH.below B4.out)).mono ?_
    rintro e w5 ⟨v5,z5,r5,rfl,D,C,b5⟩
    have R5:=hid (R4.keep b5)
    have Q5:=hid (Q4.keep b5)
    have B5:=hid (B4.trans (b5.mono B4.size))
    have Z:=hid C
    have Z5:=hid D
    have J:=hid (F.trans (b5.mono F.size))
    have ab:=hid (show w4.heap.size<=w5.heap.size from b5.size)
    clear b5 D C
    obtain⟨s0,s1⟩:=Q5.c2
    have u0:=Q5.f
    obtain⟨ad,aa⟩:=(Q5.put2 (.int .i64 0) (.int .i64 oa)).c2
    have R6:=hid ((R5.oth HNE.out 0 (.int .i64 0)).oth HNE.out 1 (.int .i64 oa))
    have B6:=hid (below_put2 B5.out HQG.out (.int .i64 0) (.int .i64 oa))
    obtain⟨r0,r1⟩:=R6.c2
    have g0:=R6.f 0
    have g1:=R6.f 1
    go_wp2
    obtain⟨t0,t1⟩:=(R6.put2 (.int .i64 0) (.int .i64 0)).c2
    have hpt:PT w4.heap.size v5 z5 r5 ((((w5.setCell ⟨w3.heap.size,0,none⟩ (.int .i64 0)).setCell ⟨w3.heap.size,1,none⟩ (.int .i64 oa)).setCell ⟨w.heap.size,0,none⟩ (.int .i64 0)).setCell ⟨w.heap.size,1,none⟩ (.int .i64 0)):=by
     have k:∀(g:Nat),g<w4.heap.size->∀(W:World),PT w4.heap.size v5 z5 r5 W->∀j u,PT w4.heap.size v5 z5 r5 (W.setCell ⟨g,j,none⟩ u):=fun g hg W h j u=>pt_low h hg j u
     have h1:w3.heap.size<w4.heap.size:=H.out
     have h2:w.heap.size<w4.heap.size:=Nat.lt_of_le_of_lt HQG.out H.out
     exact k _ h2 _ (k _ h2 _ (k _ h1 _ (k _ h1 _ Z.out _ _) _ _) _ _) _ _
    exact bodyPost_ret (v:= .tuple #[v5,.agg #[.int .i64 0,.int .i64 0]]) (by simp[results,Tryz.results11,go_sem,t0,t1]) rfl ⟨v5,z5,r5,rfl,Z5.out,PT.up hpt (Nat.le_of_lt (Nat.lt_of_le_of_lt HQG.out H.out)),below_put2 B6.out (Nat.le_refl _) _ _⟩
end Go.Proofs.YtebjmdpkobhcbaaGreatDoor.pr
