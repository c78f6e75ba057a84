/- A part. -/
import Derived.Test.YtebjmdpkobhcbaaGreatDoorRRwP
import Derived.Test.YtebjmdpkobhcbaaGreatDoorRGPj
import Derived.Test.YtebjmdpkobhcbaaGreatDoorRGLx
namespace Go.Proofs.YtebjmdpkobhcbaaGreatDoor.qs
open Lib (hid)
open Go.ChangeShapes Go.WideShapes Go.ChangeAt Go.RowKit
open tk (Tk)
open nd (Nd PT KidV makeT)
open ps (Ps posOk top)
open pe
open operand (begins)
open tksok (tokensOk)
open lex (lexF LexOut)
open pr (Bk Gr X0 below_drewN eq_facts ne_facts fld_k fld_s lies_on below_put2 POut ROut below_drew2)
set_option linter.unusedVariables false
set_option linter.unusedSimpArgs false
set_option maxRecDepth 20000
set_option maxHeartbeats 6400000
theorem parse_bad_t{l:List Tk}{p:Ps}(h:¬(parse l p).k=0):(parse l p).t=[]:=by
 unfold parse at h|-
 by_cases h1:posOk p.l p.d=true
 ·rw[if_pos h1]at h|-
  by_cases h2:(tf l).1=0
  ·rw[if_pos h2]at h|-
   cases hr:ex l (l.length+1) p 0 with
   |bad j=>rfl
   |ok lv tg t j=>
    rw[hr]at h
    unfold finish at h|-
    simp only at h|-
    by_cases h3:(sf t).1=0
    ·rw[if_pos h3]at h;exact absurd rfl h
    ·rw[if_neg h3]
  ·rw[if_neg h2]
 ·rw[if_neg h1]
theorem parse_ok_a{l:List Tk}{p:Ps}(h:(parse l p).k=0):(parse l p).a=0:=by
 unfold parse at h|-
 by_cases h1:posOk p.l p.d=true
 ·rw[if_pos h1]at h|-
  by_cases h2:(tf l).1=0
  ·rw[if_pos h2]at h|-
   cases hr:ex l (l.length+1) p 0 with
   |bad j=>rw[hr]at h;exact absurd (show(3:Int)=0 from h) (by decide)
   |ok lv tg t j=>
    rw[hr]at h
    unfold finish at h|-
    simp only at h|-
    by_cases h3:(sf t).1=0
    ·rw[if_pos h3]
    ·rw[if_neg h3]at h;exact absurd h h3
  ·rw[if_neg h2]at h;exact absurd h h2
 ·rw[if_neg h1]at h;exact absurd (show(3:Int)=0 from h) (by decide)
theorem rout_drew{O:pe.Out}{w W:World}{e:Ending}(h:ROut O w e W):ROut O w e W.drew:=by
 obtain⟨v,z,r,he,hz,hp,hb⟩:=h
 exact⟨v,z,r,he,hz,pt_same hp (Nat.le_refl _) (fun _ _=>rfl) (fun _ _=>rfl),hb.drew⟩
theorem rout_lit{k a:Int}{n:Nat}{w W:World}{e:Ending}{g b:Nat}{x y:Value}(he:e= .returned (.tuple #[.slice (some ⟨g,0,none⟩) 0 0,.agg #[.int .i64 k,.int .i64 a]]))(hL:Bk g #[] 33 W)(hg:w.heap.size<=g)(hne:g≠b)(hb:w.heap.size<=b)(hB:Below w.heap.size w W):ROut ⟨[],n,k,a⟩ w e ((W.setCell ⟨b,0,none⟩ x).setCell ⟨b,1,none⟩ y):=
 ⟨.slice (some ⟨g,0,none⟩) 0 0,[],fun i=>i,he,rfl,pt_bk ((hL.oth hne 0 x).oth hne 1 y) hg,below_put2 hB hb _ _⟩
set_option maxHeartbeats 6400000 in
theorem read_any(s:ByteArray)(w:World)(hs:s.size<=1048576):
  Calls Tryz.prog 33 #[.string s] w (ROut (readF s) w):=by
 obtain⟨W,hW⟩:∃W,W=w.alloc (.cells #[.int .i64 0,.int .i64 0] 28):=⟨_,rfl⟩
 have hB:Below w.heap.size w W:=by rw[hW];exact(Below.refl _ _).alloc (Nat.le_refl _) _
 have R0:=hid (show Bk w.heap.size #[.int .i64 0,.int .i64 0] 28 W by rw[hW];exact Bk.new _ _ _)
 have B0:=hid hB
 have HLX:=hid (lex.spec_lex s W hs)
 obtain⟨V,aa⟩:=lexF_sz s
 unfold LexOut at HLX
 unfold readF
 obtain⟨L,hL⟩:∃L,(lexF s).1=L:=⟨_,rfl⟩
 obtain⟨LK,hLK⟩:∃LK,(lexF s).2.1=LK:=⟨_,rfl⟩
 obtain⟨LA,hLA⟩:∃LA,(lexF s).2.2=LA:=⟨_,rfl⟩
 rw[hL,hLK,hLA]at HLX|-
 rw[hL]at V aa
 have Q:=hid (show∀t∈L,t.s.size<=1048576 from fun t ht=>by have:=V t ht;omega)
 have ae:=hid aa
 clear hB hs hL hLK hLA V aa
 have hpre:True:=trivial
 by_cases hk:LK=0
 case neg=>
  rw[show readO L LK LA=⟨[],0,LK,LA⟩from if_neg hk]
  obtain⟨q1,q2⟩:=ne_facts hk
  clear hk
  go_enter Tryz.func33,Tryz.ntmps33
  go_wp2_with fail
  rw[<-hW]
  clear hW
  refine HLX.mono ?_
  rintro e w3 ⟨Z,rfl,b3,o3⟩
  obtain⟨a,c,hlv⟩:=o3.form
  subst hlv
  obtain⟨W3,o⟩:∃W3,W3=w3.alloc (.cells #[.int .i64 LK,.int .i64 LA] 28):=⟨_,rfl⟩
  have y:Below w3.heap.size w3 W3:=by rw[o];exact(Below.refl _ _).alloc (Nat.le_refl _) _
  have R3:=hid ((R0.keep b3).keep y)
  have Q3:=hid (show Bk w3.heap.size #[.int .i64 LK,.int .i64 LA] 28 W3 by rw[o];exact Bk.new _ _ _)
  have B3:=hid ((B0.trans (b3.mono B0.size)).trans (y.mono (Nat.le_trans B0.size b3.size)))
  have H:=hid (lies_on (o3.lies rfl) y)
  have N:=hid (show tk.Lies w3.heap.size w3 a L from o3.lies rfl)
  have A:=hid y
  have HQG:=hid (show w.heap.size<=w3.heap.size from Nat.le_trans B0.size b3.size)
  have HNE:=hid (show¬w.heap.size=w3.heap.size by have:=R0.lt;have:=b3.size;omega)
  clear b3 y o3
  obtain⟨r0,r1⟩:=R3.c2
  have g0:=R3.f 0
  have g1:=R3.f 1
  obtain⟨s0,s1⟩:=Q3.c2
  rw[o]at r0 r1 g0 g1 s0 s1
  go_wp2
  rw[<-o]at r0 r1 g0 g1 s0 s1|-
  clear o
  obtain⟨WL,hWL⟩:∃WL,WL=W3.alloc (.cells #[] 33):=⟨_,rfl⟩
  have RL:=hid (show Bk w.heap.size #[.int .i64 0,.int .i64 0] 28 WL by rw[hWL];exact R3.alloc _)
  have LL:=hid (show Bk W3.heap.size #[] 33 WL by rw[hWL];exact Bk.new _ _ _)
  have BL:=hid (show Below w.heap.size w WL by rw[hWL];exact B3.alloc B3.size _)
  have HLE:=hid (show w.heap.size<W3.heap.size from R3.lt)
  have QL:=hid (show Bk w3.heap.size #[.int .i64 LK,.int .i64 LA] 28 WL by rw[hWL];exact Q3.alloc _)
  have v0:=QL.c2
  have ad:=RL.c2
  have ag:=RL.f
  rw[hWL]at v0 ad ag
  go_region
  go_wp2
  rw[<-hWL]
  clear hWL v0 ad ag r0 r1 g0 g1 s0 s1
  obtain⟨t0,t1⟩:=((RL.put2 (.int .i64 LK) (.int .i64 LA)).keep ((Below.refl _ _).drew)).c2
  exact bodyPost_ret (v:= .tuple #[.slice (some ⟨W3.heap.size,0,none⟩) 0 0,.agg #[.int .i64 LK,.int .i64 LA]]) (by simp[results,Tryz.results33,go_sem,t0,t1]) rfl (rout_drew (rout_lit rfl LL.out (Nat.le_of_lt HLE.out) (by have:=HLE.out;omega) (Nat.le_refl _) BL.out))
 case pos=>
  subst hk
  have HPE:=hid (fun a cap W2 (U:tk.Lies W2.heap.size W2 a L)=>parse_any L a cap top W2 U (by have:=ae.out;omega) Q.out)
  have HPL:=hid (fun a cap i W2 (U:tk.Lies W2.heap.size W2 a L) hi=>fault_any L a cap i 3 W2 U (by have:=ae.out;omega) hi Q.out)
  have hpn:=parse_n (p:=top) Q.out
  have hbt:=parse_bad_t (l:=L) (p:=top)
  have hba:=parse_ok_a (l:=L) (p:=top)
  unfold readO
  rw[if_pos rfl]
  obtain⟨O,hO⟩:∃O,parse L top=O:=⟨_,rfl⟩
  rw[hO]at HPE hpn hbt hba|-
  obtain⟨ot,on,ok,oa⟩:=O
  simp only at hpn hbt hba|-
  have HBT:=hid hbt
  clear hbt
  have HBA:=hid hba
  clear hba
  have HON:=hid hpn
  clear hO
  by_cases hk2:ok=0
  case neg=>
   rw[if_neg hk2]
   obtain⟨q1,q2⟩:=ne_facts hk2
   have HKN:=hid hk2
   clear hk2 hpn
   go_enter Tryz.func33,Tryz.ntmps33
   go_wp2_with fail
   rw[<-hW]
   clear hW
   refine HLX.mono ?_
   rintro e w3 ⟨Z,rfl,b3,o3⟩
   obtain⟨a,c,hlv⟩:=o3.form
   subst hlv
   obtain⟨W3,o⟩:∃W3,W3=w3.alloc (.cells #[.int .i64 0,.int .i64 LA] 28):=⟨_,rfl⟩
   have y:Below w3.heap.size w3 W3:=by rw[o];exact(Below.refl _ _).alloc (Nat.le_refl _) _
   have R3:=hid ((R0.keep b3).keep y)
   have Q3:=hid (show Bk w3.heap.size #[.int .i64 0,.int .i64 LA] 28 W3 by rw[o];exact Bk.new _ _ _)
   have B3:=hid ((B0.trans (b3.mono B0.size)).trans (y.mono (Nat.le_trans B0.size b3.size)))
   have H:=hid (lies_on (o3.lies rfl) y)
   have N:=hid (show tk.Lies w3.heap.size w3 a L from o3.lies rfl)
   have A:=hid y
   have HQG:=hid (show w.heap.size<=w3.heap.size from Nat.le_trans B0.size b3.size)
   have HNE:=hid (show¬w.heap.size=w3.heap.size by have:=R0.lt;have:=b3.size;omega)
   clear b3 y o3
   obtain⟨s0,s1⟩:=Q3.c2
   rw[o]at s0 s1
   go_wp2_with fail
   rw[<-o]
   refine(_root_.Go.Proofs.YtebjmdpkobhcbaaGreatDoor.ps.spec_top _).mono ?_
   rintro e w4 ⟨rfl,b4⟩
   have R4:=hid (R3.keep b4)
   have Q4:=hid (Q3.keep b4)
   have B4:=hid (B3.trans (b4.mono B3.size))
   have LQ:=hid (lies_on H.out b4)
   have G:=hid (show w3.heap.size<w4.heap.size from Nat.lt_of_lt_of_le Q3.lt b4.size)
   have F:=hid (A.trans (b4.mono A.size))
   clear b4
   go_wp2_with fail
   clear o s0 s1
   refine(HPE.out a c _ LQ.out).mono ?_
   rintro e w5 ⟨v5,z5,r5,rfl,D,C,b5⟩
   have R5:=hid (R4.keep b5)
   have Q5:=hid (Q4.keep b5)
   have B5:=hid (B4.trans (b5.mono B4.size))
   have P:=hid C
   have Z5:=hid D
   have K:=hid (F.trans (b5.mono F.size))
   have ac:=hid (show w4.heap.size<=w5.heap.size from b5.size)
   clear b5 D C
   obtain⟨r0,r1⟩:=R5.c2
   have g0:=R5.f 0
   have g1:=R5.f 1
   obtain⟨s0,s1⟩:=Q5.c2
   have u0:=Q5.f
   obtain⟨af,ab⟩:=(Q5.put2 (.int .i64 ok) (.int .i64 oa)).c2
   have R6:=hid ((R5.oth HNE.out 0 (.int .i64 ok)).oth HNE.out 1 (.int .i64 oa))
   have aj:=R6.c2
   have ak:=R6.f
   have B6:=hid (below_put2 B5.out HQG.out (.int .i64 ok) (.int .i64 oa))
   go_wp2
   go_region
   go_wp2
   obtain⟨t0,t1⟩:=(R6.put2 (.int .i64 ok) (.int .i64 oa)).c2
   have hpt:PT w4.heap.size v5 z5 r5 (((((w5.setCell ⟨w3.heap.size,0,none⟩ (.int .i64 ok)).setCell ⟨w3.heap.size,1,none⟩ (.int .i64 oa)).drew).setCell ⟨w.heap.size,0,none⟩ (.int .i64 ok)).setCell ⟨w.heap.size,1,none⟩ (.int .i64 oa)):=by
    have k:∀(g:Nat),g<w4.heap.size->∀(W:World),PT w4.heap.size v5 z5 r5 W->∀j u,PT w4.heap.size v5 z5 r5 (W.setCell ⟨g,j,none⟩ u):=fun g hg W h j u=>pr.pt_low h hg j u
    have h1:w3.heap.size<w4.heap.size:=G.out
    have h2:w.heap.size<w4.heap.size:=Nat.lt_of_le_of_lt HQG.out G.out
    have hX:=k _ h1 _ (k _ h1 _ P.out 0 (.int .i64 ok)) 1 (.int .i64 oa)
    have hY:PT w4.heap.size v5 z5 r5 (((w5.setCell ⟨w3.heap.size,0,none⟩ (.int .i64 ok)).setCell ⟨w3.heap.size,1,none⟩ (.int .i64 oa)).drew):=pt_same hX (Nat.le_refl _) (fun _ _=>rfl) (fun _ _=>rfl)
    exact k _ h2 _ (k _ h2 _ hY _ _) _ _
   exact bodyPost_ret (v:= .tuple #[v5,.agg #[.int .i64 ok,.int .i64 oa]]) (by simp[results,Tryz.results33,go_sem,t0,t1]) rfl ⟨v5,z5,r5,rfl,Z5.trans (HBT.out HKN.out),pr.PT.up hpt (Nat.le_of_lt (Nat.lt_of_le_of_lt HQG.out G.out)),below_put2 (below_drew2 B6.out) (Nat.le_refl _) _ _⟩
  case pos=>
   subst hk2
   rw[if_pos rfl]
   obtain⟨NL,hNL⟩:∃NL,L.length=NL:=⟨_,rfl⟩
   by_cases hrest:on<L.length
   ·rw[if_pos hrest]
    obtain⟨PV,hPV⟩:∃PV,place L on=PV:=⟨_,rfl⟩
    have HPV:=hid hPV
    rw[hPV]
    have ah:(on:Int)<(L.length:Int):=by omega
    clear hpn hrest hNL hPV
    go_enter Tryz.func33,Tryz.ntmps33
    go_wp2_with fail
    rw[<-hW]
    clear hW
    refine HLX.mono ?_
    rintro e w3 ⟨Z,rfl,b3,o3⟩
    obtain⟨a,c,hlv⟩:=o3.form
    subst hlv
    obtain⟨W3,o⟩:∃W3,W3=w3.alloc (.cells #[.int .i64 0,.int .i64 LA] 28):=⟨_,rfl⟩
    have y:Below w3.heap.size w3 W3:=by rw[o];exact(Below.refl _ _).alloc (Nat.le_refl _) _
    have R3:=hid ((R0.keep b3).keep y)
    have Q3:=hid (show Bk w3.heap.size #[.int .i64 0,.int .i64 LA] 28 W3 by rw[o];exact Bk.new _ _ _)
    have B3:=hid ((B0.trans (b3.mono B0.size)).trans (y.mono (Nat.le_trans B0.size b3.size)))
    have H:=hid (lies_on (o3.lies rfl) y)
    have N:=hid (show tk.Lies w3.heap.size w3 a L from o3.lies rfl)
    have A:=hid y
    have HQG:=hid (show w.heap.size<=w3.heap.size from Nat.le_trans B0.size b3.size)
    have HNE:=hid (show¬w.heap.size=w3.heap.size by have:=R0.lt;have:=b3.size;omega)
    clear b3 y o3
    obtain⟨s0,s1⟩:=Q3.c2
    rw[o]at s0 s1
    go_wp2_with fail
    rw[<-o]
    refine(_root_.Go.Proofs.YtebjmdpkobhcbaaGreatDoor.ps.spec_top _).mono ?_
    rintro e w4 ⟨rfl,b4⟩
    have R4:=hid (R3.keep b4)
    have Q4:=hid (Q3.keep b4)
    have B4:=hid (B3.trans (b4.mono B3.size))
    have LQ:=hid (lies_on H.out b4)
    have G:=hid (show w3.heap.size<w4.heap.size from Nat.lt_of_lt_of_le Q3.lt b4.size)
    have F:=hid (A.trans (b4.mono A.size))
    clear b4
    go_wp2_with fail
    clear o s0 s1
    refine(HPE.out a c _ LQ.out).mono ?_
    rintro e w5 ⟨v5,z5,r5,rfl,D,C,b5⟩
    have R5:=hid (R4.keep b5)
    have Q5:=hid (Q4.keep b5)
    have B5:=hid (B4.trans (b5.mono B4.size))
    have P:=hid C
    have Z5:=hid D
    have K:=hid (F.trans (b5.mono F.size))
    have ac:=hid (show w4.heap.size<=w5.heap.size from b5.size)
    clear b5 D C
    obtain⟨s0,s1⟩:=Q5.c2
    have u0:=Q5.f
    obtain⟨af,ab⟩:=(Q5.put2 (.int .i64 0) (.int .i64 oa)).c2
    have R6:=hid ((R5.oth HNE.out 0 (.int .i64 0)).oth HNE.out 1 (.int .i64 oa))
    have B6:=hid (below_put2 B5.out HQG.out (.int .i64 0) (.int .i64 oa))
    have L6:=hid (show tk.Lies ((w5.setCell ⟨w3.heap.size,0,none⟩ (.int .i64 0)).setCell ⟨w3.heap.size,1,none⟩ (.int .i64 oa)).heap.size _ a L from(N.keep (below_put2 K.out (Nat.le_refl _) (.int .i64 0) (.int .i64 oa)) (Nat.le_refl _)).up (by simp;exact K.size))
    obtain⟨W6,J⟩:∃W6,W6=(w5.setCell ⟨w3.heap.size,0,none⟩ (.int .i64 0)).setCell ⟨w3.heap.size,1,none⟩ (.int .i64 oa):=⟨_,rfl⟩
    rw[<-J]at R6 B6 L6
    have ai:=hid (show W6.heap.size=w5.heap.size by rw[J];simp)
    obtain⟨WL,hWL⟩:∃WL,WL=W6.alloc (.cells #[] 33):=⟨_,rfl⟩
    have RL:=hid (show Bk w.heap.size #[.int .i64 0,.int .i64 0] 28 WL by rw[hWL];exact R6.alloc _)
    have LL:=hid (show Bk W6.heap.size #[] 33 WL by rw[hWL];exact Bk.new _ _ _)
    have BL:=hid (show Below w.heap.size w WL by rw[hWL];exact B6.alloc B6.size _)
    have HLE:=hid (show w.heap.size<W6.heap.size from R6.lt)
    have L7:=hid (lies_on L6.out (show Below W6.heap.size W6 WL by rw[hWL];exact(Below.refl _ _).alloc (Nat.le_refl _) _))
    rw[ai.out]at LL HLE
    go_wp2_with fail
    rw[<-J,<-hWL]
    clear J hWL
    refine(HPL.out a c on _ L7.out HON.out).mono ?_
    rw[HPV.out]
    rintro e w7 ⟨rfl,b7⟩
    have R7:=hid (RL.keep b7)
    have L8:=hid (LL.keep b7)
    have B7:=hid (BL.trans (b7.mono BL.size))
    clear b7
    obtain⟨r0,r1⟩:=R7.c2
    have g0:=R7.f 0
    have g1:=R7.f 1
    go_wp2
    obtain⟨t0,t1⟩:=(R7.put2 (.int .i64 3) (.int .i64 PV)).c2
    exact bodyPost_ret (v:= .tuple #[.slice (some ⟨w5.heap.size,0,none⟩) 0 0,.agg #[.int .i64 3,.int .i64 PV]]) (by simp[results,Tryz.results33,go_sem,t0,t1]) rfl (rout_lit rfl L8.out (Nat.le_of_lt HLE.out) (by have:=HLE.out;omega) (Nat.le_refl _) B7.out)
   ·rw[if_neg hrest]
    have ah:¬(on:Int)<(L.length:Int):=by omega
    clear hpn hrest hNL
    go_enter Tryz.func33,Tryz.ntmps33
    go_wp2_with fail
    rw[<-hW]
    clear hW
    refine HLX.mono ?_
    rintro e w3 ⟨Z,rfl,b3,o3⟩
    obtain⟨a,c,hlv⟩:=o3.form
    subst hlv
    obtain⟨W3,o⟩:∃W3,W3=w3.alloc (.cells #[.int .i64 0,.int .i64 LA] 28):=⟨_,rfl⟩
    have y:Below w3.heap.size w3 W3:=by rw[o];exact(Below.refl _ _).alloc (Nat.le_refl _) _
    have R3:=hid ((R0.keep b3).keep y)
    have Q3:=hid (show Bk w3.heap.size #[.int .i64 0,.int .i64 LA] 28 W3 by rw[o];exact Bk.new _ _ _)
    have B3:=hid ((B0.trans (b3.mono B0.size)).trans (y.mono (Nat.le_trans B0.size b3.size)))
    have H:=hid (lies_on (o3.lies rfl) y)
    have N:=hid (show tk.Lies w3.heap.size w3 a L from o3.lies rfl)
    have A:=hid y
    have HQG:=hid (show w.heap.size<=w3.heap.size from Nat.le_trans B0.size b3.size)
    have HNE:=hid (show¬w.heap.size=w3.heap.size by have:=R0.lt;have:=b3.size;omega)
    clear b3 y o3
    obtain⟨s0,s1⟩:=Q3.c2
    rw[o]at s0 s1
    go_wp2_with fail
    rw[<-o]
    refine(_root_.Go.Proofs.YtebjmdpkobhcbaaGreatDoor.ps.spec_top _).mono ?_
    rintro e w4 ⟨rfl,b4⟩
    have R4:=hid (R3.keep b4)
    have Q4:=hid (Q3.keep b4)
    have B4:=hid (B3.trans (b4.mono B3.size))
    have LQ:=hid (lies_on H.out b4)
    have G:=hid (show w3.heap.size<w4.heap.size from Nat.lt_of_lt_of_le Q3.lt b4.size)
    have F:=hid (A.trans (b4.mono A.size))
    clear b4
    go_wp2_with fail
    clear o s0 s1
    refine(HPE.out a c _ LQ.out).mono ?_
    rintro e w5 ⟨v5,z5,r5,rfl,D,C,b5⟩
    have R5:=hid (R4.keep b5)
    have Q5:=hid (Q4.keep b5)
    have B5:=hid (B4.trans (b5.mono B4.size))
    have P:=hid C
    have Z5:=hid D
    have K:=hid (F.trans (b5.mono F.size))
    have ac:=hid (show w4.heap.size<=w5.heap.size from b5.size)
    clear b5 D C
    obtain⟨s0,s1⟩:=Q5.c2
    have u0:=Q5.f
    obtain⟨af,ab⟩:=(Q5.put2 (.int .i64 0) (.int .i64 oa)).c2
    have R6:=hid ((R5.oth HNE.out 0 (.int .i64 0)).oth HNE.out 1 (.int .i64 oa))
    have B6:=hid (below_put2 B5.out HQG.out (.int .i64 0) (.int .i64 oa))
    obtain⟨r0,r1⟩:=R6.c2
    have g0:=R6.f 0
    have g1:=R6.f 1
    go_wp2
    go_region
    go_wp2
    obtain rfl:oa=0:=by have:=HBA.out;simpa using this
    obtain⟨t0,t1⟩:=((R6.put2 (.int .i64 0) (.int .i64 0)).keep ((Below.refl _ _).drew)).c2
    have hpt:PT w4.heap.size v5 z5 r5 ((((w5.setCell ⟨w3.heap.size,0,none⟩ (.int .i64 0)).setCell ⟨w3.heap.size,1,none⟩ (.int .i64 0)).setCell ⟨w.heap.size,0,none⟩ (.int .i64 0)).setCell ⟨w.heap.size,1,none⟩ (.int .i64 0)).drew:=by
     have k:∀(g:Nat),g<w4.heap.size->∀(W:World),PT w4.heap.size v5 z5 r5 W->∀j u,PT w4.heap.size v5 z5 r5 (W.setCell ⟨g,j,none⟩ u):=fun g hg W h j u=>pr.pt_low h hg j u
     have h1:w3.heap.size<w4.heap.size:=G.out
     have h2:w.heap.size<w4.heap.size:=Nat.lt_of_le_of_lt HQG.out G.out
     have hX:=k _ h1 _ (k _ h1 _ P.out 0 (.int .i64 0)) 1 (.int .i64 0)
     exact pt_same (k _ h2 _ (k _ h2 _ hX _ _) _ _) (Nat.le_refl _) (fun _ _=>rfl) (fun _ _=>rfl)
    exact bodyPost_ret (v:= .tuple #[v5,.agg #[.int .i64 0,.int .i64 0]]) (by simp[results,Tryz.results33,go_sem,t0,t1]) rfl ⟨v5,z5,r5,rfl,Z5.out,pr.PT.up hpt (Nat.le_of_lt (Nat.lt_of_le_of_lt HQG.out G.out)),below_drew2 (below_put2 B6.out (Nat.le_refl _) _ _)⟩
end Go.Proofs.YtebjmdpkobhcbaaGreatDoor.qs
