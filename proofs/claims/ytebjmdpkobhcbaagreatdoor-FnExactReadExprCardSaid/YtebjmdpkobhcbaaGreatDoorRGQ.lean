/- A part. -/
import Derived.Test.YtebjmdpkobhcbaaGreatDoorRGQs
namespace Go.Proofs.YtebjmdpkobhcbaaGreatDoor.qs
open Go.ChangeShapes Go.WideShapes Go.ChangeAt Go.RowKit
open tk (Tk)
open nd (Nd PT KidV makeT)
open ps (Ps posOk)
open pe
open rt (isLval)
open pr (Bk Gr X0 below_drewN eq_facts ne_facts fld_k fld_s)
set_option linter.unusedVariables false
set_option linter.unusedSimpArgs false
set_option maxRecDepth 20000
theorem Tq.lies'{b B n c:Nat}{aT:Option Addr}{t:List Nd}{v:Value}{w:World}(h:Tq b B (.slice aT n c) t v w):nd.Lies w.heap.size w aT t:=by
 obtain⟨a2,c2,e,hl⟩:=h.lies
 injection e with e1 _ _
 subst e1
 exact hl
section
variable {w0:World} {l:List Tk} {a:Option Addr} {cap:Nat} {N0:List Tk} {s j:Nat} {bd:Bool} {v:Value}
theorem take_yes(k:Int)(w:World)(hst:Sq w0 l a cap N0 s j false v w)(hc:tk.Lies w0.heap.size w0 a l)(hl:l.length<=100000)(hk0:¬k=0)(hk2:¬k=2)(h:kd l j=k):
  Calls Tryz.prog 107 #[.pointer (some ⟨w0.heap.size,0,none⟩),.int .i64 k] w fun e w'=>e= .returned (.agg #[.int .i64 k,.string (tx l j),.int .i64 (pr.ta l j)])/\Sq w0 l a cap N0 s (j+1) false v w'/\Gr (X0 w0.heap.size) v v w w':=by
 have:=take_any k w hst hc hl hk0 hk2
 have e1:hit l false j k=true:=by unfold hit;rw[h];simp
 unfold hitT hitAt at this
 rw[e1,if_pos rfl,if_pos rfl,h]at this
 exact this
theorem take_no(k:Int)(w:World)(hst:Sq w0 l a cap N0 s j bd v w)(hc:tk.Lies w0.heap.size w0 a l)(hl:l.length<=100000)(hk0:¬k=0)(hk2:¬k=2)(h:bd=true\/¬kd l j=k):
  Calls Tryz.prog 107 #[.pointer (some ⟨w0.heap.size,0,none⟩),.int .i64 k] w fun e w'=>e= .returned (.agg #[.int .i64 0,.string ⟨#[]⟩,.int .i64 0])/\Sq w0 l a cap N0 s j true v w'/\Gr (X0 w0.heap.size) v v w w':=by
 have:=take_any k w hst hc hl hk0 hk2
 have e1:hit l bd j k=false:=by unfold hit;rcases h with rfl|h;rfl;simp[h]
 unfold hitT hitAt at this
 rw[e1]at this
 exact this
end
theorem over1_any{w:World}{g:Nat}(hg:w.heap.size=g)(k op:Int)(sx:ByteArray)(t1:List Nd){a1:Option Addr}{c1:Nat}(h1:nd.Lies w.heap.size w a1 t1)(k1:Wk 30000 t1):
  Calls Tryz.prog 109 #[.agg #[.int .i64 k,.int .i64 op,.string sx,.string ⟨#[]⟩,.slice none 0 0],.slice (some ⟨g,0,none⟩) 1 1] (w.alloc (.cells #[.slice a1 t1.length c1] 26)) (Ov (makeT (nd0 k op sx) [t1]) (w.alloc (.cells #[.slice a1 t1.length c1] 26))):=by
 subst hg
 exact over_any k op sx [t1] _ 1 _ (parts1 _ h1) (by have:=k1.1;simp[nd.sumL];omega) (by simp) (fun q hq t ht=>by simp at hq;subst hq;exact k1.2 t ht)
theorem over2_any{w:World}{g:Nat}(hg:w.heap.size=g)(k op:Int)(sx:ByteArray)(t1 t2:List Nd){a1 a2:Option Addr}{c1 c2:Nat}(h1:nd.Lies w.heap.size w a1 t1)(h2:nd.Lies w.heap.size w a2 t2)(k1:Wk 30000 t1)(k2:Wk 30000 t2):
  Calls Tryz.prog 109 #[.agg #[.int .i64 k,.int .i64 op,.string sx,.string ⟨#[]⟩,.slice none 0 0],.slice (some ⟨g,0,none⟩) 2 2] (w.alloc (.cells #[.slice a1 t1.length c1,.slice a2 t2.length c2] 26)) (Ov (makeT (nd0 k op sx) [t1,t2]) (w.alloc (.cells #[.slice a1 t1.length c1,.slice a2 t2.length c2] 26))):=by
 subst hg
 exact over_any k op sx [t1,t2] _ 2 _ (parts2 _ h1 h2) (by have:=k1.1;have:=k2.1;simp[nd.sumL];omega) (by simp) (fun q hq t ht=>by simp at hq;rcases hq with rfl|rfl;exact k1.2 t ht;exact k2.2 t ht)
theorem over3_any{w:World}{g:Nat}(hg:w.heap.size=g)(k op:Int)(sx:ByteArray)(t1 t2 t3:List Nd){a1 a2 a3:Option Addr}{c1 c2 c3:Nat}(h1:nd.Lies w.heap.size w a1 t1)(h2:nd.Lies w.heap.size w a2 t2)(h3:nd.Lies w.heap.size w a3 t3)(k1:Wk 30000 t1)(k2:Wk 30000 t2)(k3:Wk 30000 t3):
  Calls Tryz.prog 109 #[.agg #[.int .i64 k,.int .i64 op,.string sx,.string ⟨#[]⟩,.slice none 0 0],.slice (some ⟨g,0,none⟩) 3 3] (w.alloc (.cells #[.slice a1 t1.length c1,.slice a2 t2.length c2,.slice a3 t3.length c3] 26)) (Ov (makeT (nd0 k op sx) [t1,t2,t3]) (w.alloc (.cells #[.slice a1 t1.length c1,.slice a2 t2.length c2,.slice a3 t3.length c3] 26))):=by
 subst hg
 exact over_any k op sx [t1,t2,t3] _ 3 _ (parts3 _ h1 h2 h3) (by have:=k1.1;have:=k2.1;have:=k3.1;simp[nd.sumL];omega) (by simp) (fun q hq t ht=>by simp at hq;rcases hq with rfl|rfl|rfl;exact k1.2 t ht;exact k2.2 t ht;exact k3.2 t ht)
theorem wk_mono{K K':Nat}{t:List Nd}(h:Wk K t)(hK:K<=K'):Wk K' t:=⟨Nat.le_trans h.1 hK,h.2⟩
theorem put_make(k op:Int)(sx:ByteArray)(ps:List (List Nd)):put false (makeT (nd0 k op sx) ps)=isLval k:=by unfold put;rw[root_make];rfl
theorem at_over1(k op:Int)(r:R):atQ (over1 k op r)=atQ r:=by cases r<;>rfl
theorem bd_over1(k op:Int)(r:R):bdQ (over1 k op r)=bdQ r:=by cases r<;>rfl
theorem at_over2(k op:Int)(t:List Nd)(r:R):atQ (over2 k op t r)=atQ r:=by cases r<;>rfl
theorem bd_over2(k op:Int)(t:List Nd)(r:R):bdQ (over2 k op t r)=bdQ r:=by cases r<;>rfl
section
variable {l:List Tk} {M i m:Nat} {t1 t2 t3:List Nd} {h1 h2 h3:Bool} {k op:Int} {r:R}
theorem wk_one{K:Nat}{sx:ByteArray}(h:Wk K t1):Wk (K+1) (makeT (nd0 k op sx) [t1]):=wk_make (fun q hq n hn=>by simp at hq;subst hq;exact h.2 n hn) (by simp) (by have:=h.1;simp[nd.sumL];omega)
theorem wk_two{K1 K2:Nat}{sx:ByteArray}(h:Wk K1 t1)(h':Wk K2 t2):Wk (K1+K2+1) (makeT (nd0 k op sx) [t1,t2]):=wk_make (fun q hq n hn=>by simp at hq;rcases hq with rfl|rfl;exact h.2 n hn;exact h'.2 n hn) (by simp) (by have:=h.1;have:=h'.1;simp[nd.sumL];omega)
theorem wk_three{K1 K2 K3:Nat}{sx:ByteArray}(h:Wk K1 t1)(h':Wk K2 t2)(h'':Wk K3 t3):Wk (K1+K2+K3+1) (makeT (nd0 k op sx) [t1,t2,t3]):=wk_make (fun q hq n hn=>by simp at hq;rcases hq with rfl|rfl|rfl;exact h.2 n hn;exact h'.2 n hn;exact h''.2 n hn) (by simp) (by have:=h.1;have:=h'.1;have:=h''.1;simp[nd.sumL];omega)
theorem gt_over1(hi:i<m)(hy:GtR m t1 h1 r)(oy:Ok M l m r):GtR i (makeT (nd0 k op ⟨#[]⟩) [t1]) false (over1 k op r):=by
 have hw:=gt_wk hy oy
 cases r with
 |bad j=>exact wk_mono (wk_one hw) (by have:=oy.1;show 2*(j-m)+1<=2*(j-i);omega)
 |ok lv tg u j=>
  obtain⟨rfl,-⟩:=hy
  exact⟨rfl,(put_make _ _ _ _).symm⟩
theorem gt_over2{lv:Int}{tg:Bool}{t:List Nd}{m':Nat}(hx:GtR i t1 h1 (.ok lv tg t m))(ox:Ok M l i (.ok lv tg t m))(hm:m<=m')(hy:GtR m' t2 h2 r)(oy:Ok M l m' r):GtR i (makeT (nd0 k op ⟨#[]⟩) [t1,t2]) false (over2 k op t r):=by
 have hw:=gt_wk hy oy
 have o:=gt_wk1 hx ox
 have hlt:=ox.1
 obtain⟨rfl,-⟩:=hx
 cases r with
 |bad j=>exact wk_mono (wk_two o hw) (by have:=oy.1;show 2*(m-i)-1+2*(j-m')+1<=2*(j-i);omega)
 |ok lv' tg' u j=>
  obtain⟨rfl,-⟩:=hy
  exact⟨rfl,(put_make _ _ _ _).symm⟩
end
open Lib (hid)
open operand (begins)
open lv (opLevel)
section
variable {w0:World} {l:List Tk} {a:Option Addr} {cap:Nat} {N0:List Tk} {s j:Nat} {v:Value} {E:Ps->Nat->R} {M:Nat}
def powR(E:Ps->Nat->R)(l:List Tk)(i g:Bool):R->R
 | .bad m=> .bad m
 | .ok lv tg t m=>if kd l m=60 then over2 12 60 t (E (cp 11 i g) (m+1))else .ok lv tg t m
set_option maxHeartbeats 6400000 in
theorem pow_any(pl:Int)(pd pi pg psg:Bool)(w:World)(hst:Sq w0 l a cap N0 s j false v w)(hc:tk.Lies w0.heap.size w0 a l)(hl:l.length<=6000)(RX:R)(hX:∀(v:Value) (w:World),Sq w0 l a cap N0 s j false v w->Calls Tryz.prog 63 #[.pointer (some ⟨w0.heap.size,0,none⟩),.agg #[.int .i64 13,.bool false,.bool pi,.bool pg,.bool false]] w (Rq w0 l a cap N0 s j v w RX))(oX:Ok M l j RX)(hE:CallS w0 l a cap N0 s E (j+1))(oE:∀p i,i<=l.length->Ok M l i (E p i)):
  Calls Tryz.prog 115 #[.pointer (some ⟨w0.heap.size,0,none⟩),.agg #[.int .i64 pl,.bool pd,.bool pi,.bool pg,.bool psg]] w (Rq w0 l a cap N0 s j v w (powR E l pi pg RX)):=by
 have HC:=hid hc
 have HL:=hid (show l.length<=100000 by omega)
 have aQ:=hid hl
 have HX:=hid hX
 have OX:=hid oX
 have HE:=hid hE
 have OE:=hid oE
 have HAT:=hid (ok_at oX)
 obtain⟨W,hW⟩:∃W,W=(w.alloc (.cells #[.int .i64 pl,.bool pd,.bool pi,.bool pg,.bool psg] 44)).alloc (.cells #[.slice none 0 0,.bool false] 95):=⟨_,rfl⟩
 have hB:Below w.heap.size w W:=by rw[hW];exact((Below.refl _ _).alloc (Nat.le_refl _) _).alloc (by simp) _
 have P0:=hid (show Mq w0.heap.size w.heap.size #[.int .i64 pl,.bool pd,.bool pi,.bool pg,.bool psg] 44 v W from Mq.of hst (by rw[hW];exact(Bk.new _ _ _).alloc _) (Nat.le_refl _))
 have R0:=hid (show Mq w0.heap.size (w.heap.size+1) #[.slice none 0 0,.bool false] 95 v W from Mq.of hst (by rw[hW];have:=Bk.new (w.alloc (.cells #[.int .i64 pl,.bool pd,.bool pi,.bool pg,.bool psg] 44)) #[.slice none 0 0,.bool false] 95;simpa using this) (Nat.le_succ _))
 have S0:=hid (hst.keep hB)
 have G0:=hid (show Gr (X0 w0.heap.size) v v w W from Gr.quiet hB)
 have HLT:=hid hst.lt
 have HBS:=hid hB.size
 have HJN:=hid hst.jn
 have HWS:=hid (show W.heap.size=w.heap.size+2 by rw[hW];simp)
 clear hB hst
 clear hX oX hE oE hc hl
 obtain⟨c1,c2,c3,c4⟩:=S0.c
 have m5:=P0.bk.c5
 have be:=R0.bk.c2
 have aG:=R0.bk.f
 rw[hW]at c1 c2 c3 c4 m5 be aG
 go_enter Tryz.func115,Tryz.ntmps115
 go_wp2_with fail
 rw[<-hW]
 clear c1 c2 c3 c4 m5 be aG hW
 refine(part_any _ _ _ _ _ _ _).mono ?_
 rintro e bL ⟨rfl,ak⟩
 have aS:=hid (S0.keep ak)
 have aF:=hid (P0.keep ak)
 have an:=hid (R0.keep ak)
 have bB:=hid (G0.trans (Gr.quiet ak))
 clear ak
 have cd:=aS.c
 have bY:=aF.bk.c5
 have b7:=an.bk.c2
 go_wp2_with fail
 clear cd bY b7
 refine(HX.out v bL aS.out).mono ?_
 rintro e ah ⟨T,A,ac,ae,rfl,s9,ao,t9,aE⟩
 have aC:=hid s9
 have bP:=hid (aF.go ao)
 have bU:=hid (an.go ao)
 have bF:=hid (bB.trans ao)
 have bK:=hid t9
 have am:=hid aE
 obtain⟨H,F,rfl,b5⟩:=t9.lies
 clear s9 t9 ao aE b5
 obtain⟨aj,y⟩:∃W,W=ah.alloc (.cells #[.slice H A.length F,.bool ac] 95):=⟨_,rfl⟩
 have ab:Below ah.heap.size ah aj:=by rw[y];exact(Below.refl _ _).alloc (Nat.le_refl _) _
 have al:=hid (show Mq w0.heap.size ah.heap.size #[.slice H A.length F,.bool ac] 95 ae aj from Mq.of aC.out (by rw[y];exact Bk.new _ _ _) (Nat.le_refl _))
 have cf:=hid (show aj.heap.size=ah.heap.size+1 by rw[y];simp)
 have aP:=hid (aC.keep ab)
 have af:=hid (bP.keep ab)
 have C:=hid (bU.keep ab)
 have az:=hid (bK.out.keep ab)
 have a9:=hid (bF.trans (Gr.quiet ab))
 clear ab
 cases RX with
 |bad m=>
  have Sb:=hid (show Sq w0 l a cap N0 s m true ae aj from aP.out)
  have P:=Sb.c
  have K:=af.bk.c5
  have Q:=C.bk.c2
  have N:=C.bk.f
  have G:=al.bk.c2
  rw[y]at P K Q N G
  go_wp2
  rw[<-y]
  clear P K Q N G y
  obtain⟨bp,bo⟩:=(C.bk.put2 (.slice H A.length F) (.bool ac)).c2
  exact bodyPost_ret (v:= .agg #[.slice H A.length F,.bool ac]) (by simp[results,Tryz.results115,go_sem,bp,bo]) rfl (rq_end HLT.out Sb.out a9.out C.out az.out (by exact Nat.le_succ _) (by exact an.bk.lt) (am.out))
 |ok lv tg tx m=>
  have Sb:=hid (show Sq w0 l a cap N0 s m false ae aj from aP.out)
  by_cases h60:kd l m=60
  case pos=>
   have HK:=hid (kind_any _ Sb.out HC.out HL.out)
   rw[h60]at HK
   have HPR:=hid (show powR E l pi pg (.ok lv tg tx m)=over2 12 60 tx (E (cp 11 pi pg) (m+1))from if_pos h60)
   have b9:=hid h60
   have HM:=hid (kd_lt (l:=l) (i:=m) (by omega))
   clear h60
   have P:=Sb.c
   have K:=af.bk.c5
   have Q:=C.bk.c2
   have N:=C.bk.f
   have G:=al.bk.c2
   rw[y]at P K Q N G
   go_wp2_with fail
   rw[<-y]
   clear P K Q N G y
   refine(HK.out).mono ?_
   rintro e b8 ⟨rfl,o⟩
   have ag:=hid (Sb.keep o)
   have au:=hid (af.keep o)
   have O:=hid (C.keep o)
   have ar:=hid (al.keep o)
   have a0:=hid (az.keep o)
   have aA:=hid (a9.trans (Gr.quiet o))
   clear o
   have a2:=ag.c
   have ay:=au.bk.c5
   have a4:=O.bk.c2
   have a3:=O.bk.f
   have a7:=ar.bk.c2
   go_wp2_with fail
   clear a2 ay a4 a3 a7
   refine(take_yes 60 _ ag.out HC.out HL.out (by decide) (by decide) b9.out).mono ?_
   rintro e cg ⟨rfl,s9,g9⟩
   have St:=hid s9
   have aO:=hid (au.go g9)
   have a6:=hid (O.go g9)
   have bc:=hid (ar.go g9)
   have b0:=hid (a0.go g9)
   have bx:=hid (aA.trans g9)
   clear s9 g9
   have b6:=St.c
   have bz:=aO.bk.c5
   have b2:=a6.bk.c2
   have bu:=a6.bk.f
   have bJ:=bc.bk.c2
   go_wp2_with fail
   clear b6 bz b2 bu bJ
   refine(part_any _ _ _ _ _ _ _).mono ?_
   rintro e bh ⟨rfl,U⟩
   have bf:=hid (St.keep U)
   have bj:=hid (aO.keep U)
   have a5:=hid (a6.keep U)
   have aV:=hid (bc.keep U)
   have b3:=hid (b0.keep U)
   have bs:=hid (bx.trans (Gr.quiet U))
   clear U
   have bX:=bf.c
   have bC:=bj.bk.c5
   have bZ:=a5.bk.c2
   have bQ:=a5.bk.f
   have cb:=aV.bk.c2
   go_wp2_with fail
   clear bX bC bZ bQ cb
   obtain⟨RY,hRY⟩:∃RY,E (cp 11 pi pg) (m+1)=RY:=⟨_,rfl⟩
   have HRY:=hid hRY
   have OY:=hid (show Ok M l (m+1) RY by rw[<-hRY];exact OE.out _ _ HM.out)
   clear hRY
   refine(show Calls _ _ _ _ (Rq w0 l a cap N0 s (m+1) ae bh RY) by rw[<-HRY.out];exact HE.out 11 pi pg false (m+1) ae bh (by decide) (by decide) (by have:=HAT.out.1;simp only[atQ]at this;omega) bf.out).mono ?_
   rintro e ai ⟨T,Z,aY,bw,rfl,s9,aa,t9,aH⟩
   have aW:=hid s9
   have bG:=hid (bj.go aa)
   have bS:=hid (a5.go aa)
   have bA:=hid (aV.go aa)
   have ce:=hid (b3.go aa)
   have bE:=hid (bs.trans aa)
   have bR:=hid t9
   have ba:=hid aH
   obtain⟨aq,ap,rfl,bl⟩:=t9.lies
   clear s9 t9 aa aH bl
   obtain⟨V,ad⟩:∃W,W=ai.alloc (.cells #[.slice aq Z.length ap,.bool aY] 95):=⟨_,rfl⟩
   have J:Below ai.heap.size ai V:=by rw[ad];exact(Below.refl _ _).alloc (Nat.le_refl _) _
   have aT:=hid (show Mq w0.heap.size ai.heap.size #[.slice aq Z.length ap,.bool aY] 95 bw V from Mq.of aW.out (by rw[ad];exact Bk.new _ _ _) (Nat.le_refl _))
   have bq:=hid (show V.heap.size=ai.heap.size+1 by rw[ad];simp)
   have a8:=hid (aW.keep J)
   have bi:=hid (bG.keep J)
   have aw:=hid (bS.keep J)
   have aU:=hid (bA.keep J)
   have aX:=hid (ce.keep J)
   have aB:=hid (bR.out.keep J)
   have bO:=hid (bE.trans (Gr.quiet J))
   clear J
   have aM:=a8.c
   have bb:=bi.bk.c5
   have aZ:=aw.bk.c2
   have aD:=aw.bk.f
   have aJ:=aU.bk.c2
   have aR:=aT.bk.c2
   rw[ad]at aM bb aZ aD aJ aR
   go_wp2_with fail
   rw[<-ad]
   clear aM bb aZ aD aJ aR ad
   have aN:=aX.lies'
   have aK:=aB.lies'
   refine(over2_any bq.out 12 60 ⟨#[]⟩ A Z aN aK (wk_mono (gt_wk am.out OX.out) (by have:=aQ.out;have:=HAT.out;simp only[atQ]at*;omega)) (wk_mono (gt_wk ba.out OY.out) (by have:=aQ.out;have:=(ok_at OY.out).2;omega))).mono ?_
   rintro e bN ⟨T,z,r,rfl,hz,hp,bg,hr⟩
   have u1860:=Tq.of (a8.alloc (.cells #[.slice H A.length F,.slice aq Z.length ap] 26)) hp hr
   rw[hz]at u1860
   have bV:=hid (show(V.alloc (.cells #[.slice H A.length F,.slice aq Z.length ap] 26)).heap.size=V.heap.size+1 by simp)
   rw[bV.out]at u1860
   have b4:=hid u1860
   have D:Below V.heap.size V bN:=((Below.refl _ _).alloc (Nat.le_refl _) _).trans (bg.mono (by simp))
   have a1:=hid (a8.keep D)
   have bt:=hid (bi.keep D)
   have ax:=hid (aw.keep D)
   have bW:=hid (aU.keep D)
   have bH:=hid (aT.keep D)
   have ch:=hid (aX.keep D)
   have ci:=hid (aB.keep D)
   have bM:=hid (bO.trans (Gr.quiet D))
   obtain⟨aL,aI,rfl,-⟩:=u1860.lies
   clear u1860 hz hp hr bg D aN aK
   have b1:=a1.c
   have bn:=bt.bk.c5
   have bv:=ax.bk.c2
   have ca:=ax.bk.f
   have bI:=bW.bk.c2
   have cc:=bH.bk.c2
   go_wp2
   clear b1 bn bv ca bI cc
   rw[HRY.out]at HPR
   obtain⟨br,bm⟩:=(ax.bk.put2 (.slice aL (makeT (nd0 12 60 ⟨#[]⟩) [A,Z]).length aI) (.bool false)).c2
   exact bodyPost_ret (v:= .agg #[.slice aL (makeT (nd0 12 60 ⟨#[]⟩) [A,Z]).length aI,.bool false]) (by simp[results,Tryz.results115,go_sem,br,bm]) rfl (by rw[HPR.out];exact rq_end HLT.out (by first|exact a1.out|(simp only[at_over1,bd_over1,at_over2,bd_over2];exact a1.out)) bM.out ax.out b4.out (by exact Nat.le_succ _) (by exact Nat.lt_succ_of_lt aw.bk.lt) (gt_over2 am.out OX.out (Nat.le_succ m) ba.out OY.out))
  case neg=>
   have HK:=hid (kind_any _ Sb.out HC.out HL.out)
   have HPR:=hid (show powR E l pi pg (.ok lv tg tx m)= .ok lv tg tx m from if_neg h60)
   obtain⟨c,hcc⟩:∃c,kd l m=c:=⟨_,rfl⟩
   rw[hcc]at HK h60
   obtain⟨q1,q2⟩:=ne_facts h60
   clear h60 hcc
   have P:=Sb.c
   have K:=af.bk.c5
   have Q:=C.bk.c2
   have N:=C.bk.f
   have G:=al.bk.c2
   rw[y]at P K Q N G
   go_wp2_with fail
   rw[<-y]
   clear P K Q N G y
   refine(HK.out).mono ?_
   rintro e b8 ⟨rfl,o⟩
   have ag:=hid (Sb.keep o)
   have au:=hid (af.keep o)
   have O:=hid (C.keep o)
   have ar:=hid (al.keep o)
   have a0:=hid (az.keep o)
   have aA:=hid (a9.trans (Gr.quiet o))
   clear o
   have a2:=ag.c
   have ay:=au.bk.c5
   have a4:=O.bk.c2
   have a3:=O.bk.f
   have a7:=ar.bk.c2
   go_wp2
   clear a2 ay a4 a3 a7
   obtain⟨bT,bD⟩:=(O.bk.put2 (.slice H A.length F) (.bool ac)).c2
   exact bodyPost_ret (v:= .agg #[.slice H A.length F,.bool ac]) (by simp[results,Tryz.results115,go_sem,bT,bD]) rfl (by rw[HPR.out];exact rq_end HLT.out (ag.out) aA.out O.out a0.out (by exact Nat.le_succ _) (by exact an.bk.lt) (am.out))
end
section
variable {w0:World} {l:List Tk} {a:Option Addr} {cap:Nat} {N0:List Tk} {s j:Nat} {v:Value} {E:Ps->Nat->R} {M:Nat}
set_option maxHeartbeats 6400000 in
theorem pre_any(pl:Int)(pd pi pg psg:Bool)(w:World)(hst:Sq w0 l a cap N0 s j false v w)(hc:tk.Lies w0.heap.size w0 a l)(hl:l.length<=6000)(hE:CallS w0 l a cap N0 s E (j+1))(oE:∀p i,i<=l.length->Ok M l i (E p i))(hk:isInc (kd l j)=true):
  Calls Tryz.prog 62 #[.pointer (some ⟨w0.heap.size,0,none⟩),.agg #[.int .i64 pl,.bool pd,.bool pi,.bool pg,.bool psg]] w (Rq w0 l a cap N0 s j v w (preR E l pi pg j)):=by
 have HC:=hid hc
 have HL:=hid (show l.length<=100000 by omega)
 have bJ:=hid hl
 have HE:=hid hE
 have OE:=hid oE
 have HJ:=hid (kd_lt (l:=l) (i:=j) (by have:=inc_vals hk;omega))
 obtain⟨W,hW⟩:∃W,W=(w.alloc (.cells #[.int .i64 pl,.bool pd,.bool pi,.bool pg,.bool psg] 44)).alloc (.cells #[.slice none 0 0,.bool false] 95):=⟨_,rfl⟩
 have hB:Below w.heap.size w W:=by rw[hW];exact((Below.refl _ _).alloc (Nat.le_refl _) _).alloc (by simp) _
 have P0:=hid (show Mq w0.heap.size w.heap.size #[.int .i64 pl,.bool pd,.bool pi,.bool pg,.bool psg] 44 v W from Mq.of hst (by rw[hW];exact(Bk.new _ _ _).alloc _) (Nat.le_refl _))
 have R0:=hid (show Mq w0.heap.size (w.heap.size+1) #[.slice none 0 0,.bool false] 95 v W from Mq.of hst (by rw[hW];have:=Bk.new (w.alloc (.cells #[.int .i64 pl,.bool pd,.bool pi,.bool pg,.bool psg] 44)) #[.slice none 0 0,.bool false] 95;simpa using this) (Nat.le_succ _))
 have S0:=hid (hst.keep hB)
 have G0:=hid (show Gr (X0 w0.heap.size) v v w W from Gr.quiet hB)
 have HLT:=hid hst.lt
 have HBS:=hid hB.size
 have HJN:=hid hst.jn
 have HWS:=hid (show W.heap.size=w.heap.size+2 by rw[hW];simp)
 clear hB hst
 obtain⟨c,hcc⟩:∃c,kd l j=c:=⟨_,rfl⟩
 have hv:=inc_vals hk
 rw[hcc]at hv
 have HCC:=hid hcc
 have HV:=hid hv
 have HK:=hid (kind_any _ S0.out HC.out HL.out)
 rw[hcc]at HK
 clear hE oE hc hl hk hcc hv
 obtain⟨c1,c2,c3,c4⟩:=S0.c
 have m5:=P0.bk.c5
 have cb:=R0.bk.c2
 have bp:=R0.bk.f
 rw[hW]at c1 c2 c3 c4 m5 cb bp
 go_enter Tryz.func62,Tryz.ntmps62
 go_wp2_with fail
 rw[<-hW]
 clear c1 c2 c3 c4 m5 cb bp hW
 refine(HK.out).mono ?_
 rintro e d2 ⟨rfl,az⟩
 have bL:=hid (S0.keep az)
 have bm:=hid (P0.keep az)
 have bj:=hid (R0.keep az)
 have cI:=hid (G0.trans (Gr.quiet az))
 clear az
 have dy:=bL.c
 have du:=bm.bk.c5
 have cF:=bj.bk.c2
 go_wp2_with fail
 clear dy du cF
 refine(take_yes c _ bL.out HC.out HL.out (by have:=HV.out;omega) (by have:=HV.out;omega) HCC.out).mono ?_
 rintro e dz ⟨rfl,b9,aS⟩
 have H:=hid b9
 have ah:=hid (bm.go aS)
 have am:=hid (bj.go aS)
 have bc:=hid (cI.trans aS)
 clear b9 aS
 have K:=hid (fun W2 (h2:Sq w0 l a cap N0 s (j+1) false v W2)=>kind_any W2 h2 HC.out HL.out)
 by_cases h6:kd l (j+1)=6
 case pos=>
  have HPR:=hid (show preR E l pi pg j=over1 9 c (E (cp 14 pi pg) (j+1)) by unfold preR;rw[HCC.out];exact if_pos (by omega))
  obtain⟨RY,hRY⟩:∃R,E (cp 14 pi pg) (j+1)=R:=⟨_,rfl⟩
  have HRY:=hid hRY
  have ORY:=hid (show Ok M l (j+1) RY by rw[<-hRY];exact OE.out _ _ HJ.out)
  clear hRY
  rw[HRY.out]at HPR
  rw[h6]at K
  clear h6
  have aA:=H.c
  have a3:=ah.bk.c5
  have ar:=am.bk.c2
  go_wp2_with fail
  clear aA a3 ar
  refine(K.out _ H.out).mono ?_
  rintro e bQ ⟨rfl,o⟩
  have C:=hid (H.keep o)
  have O:=hid (ah.keep o)
  have A:=hid (am.keep o)
  have a9:=hid (bc.trans (Gr.quiet o))
  clear o
  have a6:=C.c
  have ay:=O.bk.c5
  have aB:=A.bk.c2
  have a5:=A.bk.f
  go_wp2_with fail
  clear a6 ay aB a5
  refine(part_any _ _ _ _ _ _ _).mono ?_
  rintro e al ⟨rfl,y⟩
  have F:=hid (C.keep y)
  have J:=hid (O.keep y)
  have D:=hid (A.keep y)
  have ap:=hid (a9.trans (Gr.quiet y))
  clear y
  have a0:=F.c
  have a7:=J.bk.c5
  have au:=D.bk.c2
  have aq:=D.bk.f
  go_wp2_with fail
  clear a0 a7 au aq
  refine(show Calls _ _ _ _ (Rq w0 l a cap N0 s (j+1) v al RY) by rw[<-HRY.out];exact HE.out 14 pi pg false (j+1) v al (by decide) (by decide) (by omega) F.out).mono ?_
  rintro e N ⟨T,U,cc,df,rfl,s9,aJ,t9,bI⟩
  have aw:=hid s9
  have cQ:=hid (J.go aJ)
  have dg:=hid (D.go aJ)
  have dh:=hid (ap.trans aJ)
  have c8:=hid t9
  have bY:=hid bI
  obtain⟨aE,aP,rfl,cL⟩:=t9.lies
  clear s9 t9 aJ bI cL
  obtain⟨ac,ai⟩:∃W,W=N.alloc (.cells #[.slice aE U.length aP,.bool cc] 95):=⟨_,rfl⟩
  have aj:Below N.heap.size N ac:=by rw[ai];exact(Below.refl _ _).alloc (Nat.le_refl _) _
  have bx:=hid (show Mq w0.heap.size N.heap.size #[.slice aE U.length aP,.bool cc] 95 df ac from Mq.of aw.out (by rw[ai];exact Bk.new _ _ _) (Nat.le_refl _))
  have dp:=hid (show ac.heap.size=N.heap.size+1 by rw[ai];simp)
  have aW:=hid (aw.keep aj)
  have b1:=hid (cQ.keep aj)
  have aC:=hid (dg.keep aj)
  have bh:=hid (c8.out.keep aj)
  have bb:=hid (dh.trans (Gr.quiet aj))
  clear aj
  have aU:=aW.c
  have aF:=b1.bk.c5
  have aD:=aC.bk.c2
  have aQ:=aC.bk.f
  have cg:=bx.bk.c2
  rw[ai]at aU aF aD aQ cg
  go_wp2_with fail
  rw[<-ai]
  clear aU aF aD aQ cg ai
  have bX:=bh.lies'
  refine(over1_any dp.out 9 c ⟨#[]⟩ U bX (wk_mono (gt_wk bY.out ORY.out) (by have:=bJ.out;have:=(ok_at ORY.out).2;omega))).mono ?_
  rintro e cR ⟨T,z,r,rfl,hz,hp,b3,hr⟩
  have u1290:=Tq.of (aW.alloc (.cells #[.slice aE U.length aP] 26)) hp hr
  rw[hz]at u1290
  have aM:=hid (show(ac.alloc (.cells #[.slice aE U.length aP] 26)).heap.size=ac.heap.size+1 by simp)
  rw[aM.out]at u1290
  have ct:=hid u1290
  have Z:Below ac.heap.size ac cR:=((Below.refl _ _).alloc (Nat.le_refl _) _).trans (b3.mono (by simp))
  have aY:=hid (aW.keep Z)
  have aV:=hid (b1.keep Z)
  have af:=hid (aC.keep Z)
  have cW:=hid (bx.keep Z)
  have d0:=hid (bh.keep Z)
  have ch:=hid (bb.trans (Gr.quiet Z))
  obtain⟨aa,P,rfl,-⟩:=u1290.lies
  clear u1290 hz hp hr b3 Z bX
  have di:=aY.c
  have cm:=aV.bk.c5
  have cn:=af.bk.c2
  have c9:=af.bk.f
  have cw:=cW.bk.c2
  go_wp2
  clear di cm cn c9 cw
  obtain⟨cV,cy⟩:=(af.bk.put2 (.slice aa (makeT (nd0 9 c ⟨#[]⟩) [U]).length P) (.bool false)).c2
  exact bodyPost_ret (v:= .agg #[.slice aa (makeT (nd0 9 c ⟨#[]⟩) [U]).length P,.bool false]) (by simp[results,Tryz.results62,go_sem,cV,cy]) rfl (by rw[HPR.out];exact rq_end HLT.out (by first|exact aY.out|(simp only[at_over1,bd_over1,at_over2,bd_over2];exact aY.out)) ch.out af.out ct.out (by exact Nat.le_succ _) (by exact Nat.lt_succ_of_lt aC.bk.lt) (gt_over1 (Nat.lt_succ_self j) bY.out ORY.out))
 case neg=>
  by_cases h68:kd l (j+1)=68
  case pos=>
   have HPR:=hid (show preR E l pi pg j=over1 9 c (E (cp 14 pi pg) (j+1)) by unfold preR;rw[HCC.out];exact if_pos (by omega))
   obtain⟨RY,hRY⟩:∃R,E (cp 14 pi pg) (j+1)=R:=⟨_,rfl⟩
   have HRY:=hid hRY
   have ORY:=hid (show Ok M l (j+1) RY by rw[<-hRY];exact OE.out _ _ HJ.out)
   clear hRY
   rw[HRY.out]at HPR
   rw[h68]at K
   clear h6 h68
   have aA:=H.c
   have a3:=ah.bk.c5
   have ar:=am.bk.c2
   go_wp2_with fail
   clear aA a3 ar
   refine(K.out _ H.out).mono ?_
   rintro e bQ ⟨rfl,o⟩
   have C:=hid (H.keep o)
   have O:=hid (ah.keep o)
   have A:=hid (am.keep o)
   have a9:=hid (bc.trans (Gr.quiet o))
   clear o
   have a6:=C.c
   have ay:=O.bk.c5
   have aB:=A.bk.c2
   have a5:=A.bk.f
   go_wp2_with fail
   clear a6 ay aB a5
   refine(K.out _ C.out).mono ?_
   rintro e al ⟨rfl,y⟩
   have F:=hid (C.keep y)
   have J:=hid (O.keep y)
   have D:=hid (A.keep y)
   have ap:=hid (a9.trans (Gr.quiet y))
   clear y
   have a0:=F.c
   have a7:=J.bk.c5
   have au:=D.bk.c2
   have aq:=D.bk.f
   go_wp2_with fail
   clear a0 a7 au aq
   refine(part_any _ _ _ _ _ _ _).mono ?_
   rintro e N ⟨rfl,a1⟩
   have aw:=hid (F.keep a1)
   have b4:=hid (J.keep a1)
   have aX:=hid (D.keep a1)
   have dd:=hid (ap.trans (Gr.quiet a1))
   clear a1
   have cB:=aw.c
   have dc:=b4.bk.c5
   have cO:=aX.bk.c2
   have ck:=aX.bk.f
   go_wp2_with fail
   clear cB dc cO ck
   refine(show Calls _ _ _ _ (Rq w0 l a cap N0 s (j+1) v N RY) by rw[<-HRY.out];exact HE.out 14 pi pg false (j+1) v N (by decide) (by decide) (by omega) aw.out).mono ?_
   rintro e a8 ⟨T,ae,bA,c6,rfl,s9,aT,t9,bi⟩
   have bZ:=hid s9
   have dq:=hid (b4.go aT)
   have de:=hid (aX.go aT)
   have cC:=hid (dd.trans aT)
   have dr:=hid t9
   have bg:=hid bi
   obtain⟨aL,aI,rfl,ds⟩:=t9.lies
   clear s9 t9 aT bi ds
   obtain⟨ab,ao⟩:∃W,W=a8.alloc (.cells #[.slice aL ae.length aI,.bool bA] 95):=⟨_,rfl⟩
   have an:Below a8.heap.size a8 ab:=by rw[ao];exact(Below.refl _ _).alloc (Nat.le_refl _) _
   have bn:=hid (show Mq w0.heap.size a8.heap.size #[.slice aL ae.length aI,.bool bA] 95 c6 ab from Mq.of bZ.out (by rw[ao];exact Bk.new _ _ _) (Nat.le_refl _))
   have cE:=hid (show ab.heap.size=a8.heap.size+1 by rw[ao];simp)
   have aZ:=hid (bZ.keep an)
   have bD:=hid (dq.keep an)
   have aK:=hid (de.keep an)
   have bG:=hid (dr.out.keep an)
   have cH:=hid (cC.trans (Gr.quiet an))
   clear an
   have cd:=aZ.c
   have bM:=bD.bk.c5
   have bl:=aK.bk.c2
   have bF:=aK.bk.f
   have bC:=bn.bk.c2
   rw[ao]at cd bM bl bF bC
   go_wp2_with fail
   rw[<-ao]
   clear cd bM bl bF bC ao
   have bK:=bG.lies'
   refine(over1_any cE.out 9 c ⟨#[]⟩ ae bK (wk_mono (gt_wk bg.out ORY.out) (by have:=bJ.out;have:=(ok_at ORY.out).2;omega))).mono ?_
   rintro e cX ⟨T,z,r,rfl,hz,hp,bP,hr⟩
   have u1480:=Tq.of (aZ.alloc (.cells #[.slice aL ae.length aI] 26)) hp hr
   rw[hz]at u1480
   have dn:=hid (show(ab.alloc (.cells #[.slice aL ae.length aI] 26)).heap.size=ab.heap.size+1 by simp)
   rw[dn.out]at u1480
   have dv:=hid u1480
   have ad:Below ab.heap.size ab cX:=((Below.refl _ _).alloc (Nat.le_refl _) _).trans (bP.mono (by simp))
   have bf:=hid (aZ.keep ad)
   have cD:=hid (bD.keep ad)
   have aO:=hid (aK.keep ad)
   have cY:=hid (bn.keep ad)
   have d1:=hid (bG.keep ad)
   have cT:=hid (cH.trans (Gr.quiet ad))
   obtain⟨bT,b8,rfl,-⟩:=u1480.lies
   clear u1480 hz hp hr bP ad bK
   have db:=bf.c
   have cZ:=cD.bk.c5
   have cl:=aO.bk.c2
   have da:=aO.bk.f
   have dw:=cY.bk.c2
   go_wp2
   clear db cZ cl da dw
   obtain⟨cK,cU⟩:=(aO.bk.put2 (.slice bT (makeT (nd0 9 c ⟨#[]⟩) [ae]).length b8) (.bool false)).c2
   exact bodyPost_ret (v:= .agg #[.slice bT (makeT (nd0 9 c ⟨#[]⟩) [ae]).length b8,.bool false]) (by simp[results,Tryz.results62,go_sem,cK,cU]) rfl (by rw[HPR.out];exact rq_end HLT.out (by first|exact bf.out|(simp only[at_over1,bd_over1,at_over2,bd_over2];exact bf.out)) cT.out aO.out dv.out (by exact Nat.le_succ _) (by exact Nat.lt_succ_of_lt aK.bk.lt) (gt_over1 (Nat.lt_succ_self j) bg.out ORY.out))
  case neg=>
   have HPR:=hid (show preR E l pi pg j= .bad (j+1) by unfold preR;exact if_neg (by omega))
   obtain⟨c2,b7⟩:∃c2,kd l (j+1)=c2:=⟨_,rfl⟩
   rw[b7]at K h6 h68
   obtain⟨q1,q2⟩:=ne_facts h6
   obtain⟨q3,q4⟩:=ne_facts h68
   clear h6 h68 b7
   have aA:=H.c
   have a3:=ah.bk.c5
   have ar:=am.bk.c2
   go_wp2_with fail
   clear aA a3 ar
   refine(K.out _ H.out).mono ?_
   rintro e bQ ⟨rfl,o⟩
   have C:=hid (H.keep o)
   have O:=hid (ah.keep o)
   have A:=hid (am.keep o)
   have a9:=hid (bc.trans (Gr.quiet o))
   clear o
   have a6:=C.c
   have ay:=O.bk.c5
   have aB:=A.bk.c2
   have a5:=A.bk.f
   go_wp2_with fail
   clear a6 ay aB a5
   refine(K.out _ C.out).mono ?_
   rintro e al ⟨rfl,y⟩
   have F:=hid (C.keep y)
   have J:=hid (O.keep y)
   have D:=hid (A.keep y)
   have ap:=hid (a9.trans (Gr.quiet y))
   clear y
   have a0:=F.c
   have a7:=J.bk.c5
   have au:=D.bk.c2
   have aq:=F.f
   obtain⟨bz,ax⟩:∃W,W=al.setCell ⟨w0.heap.size,2,none⟩ (.bool true):=⟨_,rfl⟩
   have cf:=hid (show Sq w0 l a cap N0 s (j+1) true v bz by rw[ax];exact F.bad)
   have aR:Gr (X0 w0.heap.size) v v al bz:=by rw[ax];exact Gr.box rfl 2 _
   have bB:=hid (J.go aR)
   have ca:=hid (D.go aR)
   have cz:=hid (ap.trans aR)
   clear aR
   have bE:=cf.c
   have bV:=bB.bk.c5
   have br:=ca.bk.c2
   rw[ax]at bE bV br
   go_wp2_with fail
   rw[<-ax]
   clear a0 a7 au aq bE bV br ax
   refine(part_any _ _ _ _ _ _ _).mono ?_
   rintro e bW ⟨rfl,a4⟩
   have bs:=hid (cf.keep a4)
   have bS:=hid (bB.keep a4)
   have be:=hid (ca.keep a4)
   have bb:=hid (cz.trans (Gr.quiet a4))
   clear a4
   have aU:=bs.c
   have aF:=bS.bk.c5
   have aD:=be.bk.c2
   have aQ:=be.bk.f
   go_wp2_with fail
   clear aU aF aD aQ
   refine(show Calls _ _ _ _ (Rq w0 l a cap N0 s (j+1) v bW (.bad (j+1)))from HE.out 14 pi pg true (j+1) v bW (by decide) (by decide) (by omega) bs.out).mono ?_
   rintro e a2 ⟨T,G,aM,dt,rfl,s9,aG,t9,bq⟩
   have b5:=hid s9
   have aV:=hid (bS.go aG)
   have af:=hid (be.go aG)
   have dx:=hid (bb.trans aG)
   have cx:=hid t9
   have ce:=hid bq
   obtain⟨aa,P,rfl,co⟩:=t9.lies
   clear s9 t9 aG bq co
   obtain⟨V,ak⟩:∃W,W=a2.alloc (.cells #[.slice aa G.length P,.bool aM] 95):=⟨_,rfl⟩
   have ag:Below a2.heap.size a2 V:=by rw[ak];exact(Below.refl _ _).alloc (Nat.le_refl _) _
   have bv:=hid (show Mq w0.heap.size a2.heap.size #[.slice aa G.length P,.bool aM] 95 dt V from Mq.of b5.out (by rw[ak];exact Bk.new _ _ _) (Nat.le_refl _))
   have c0:=hid (show V.heap.size=a2.heap.size+1 by rw[ak];simp)
   have ba:=hid (b5.keep ag)
   have bo:=hid (aV.keep ag)
   have aN:=hid (af.keep ag)
   have bu:=hid (cx.out.keep ag)
   have cG:=hid (dx.trans (Gr.quiet ag))
   clear ag
   have bw:=ba.c
   have bU:=bo.bk.c5
   have b2:=aN.bk.c2
   have b6:=aN.bk.f
   have bO:=bv.bk.c2
   rw[ak]at bw bU b2 b6 bO
   go_wp2_with fail
   rw[<-ak]
   clear bw bU b2 b6 bO ak
   have b0:=bu.lies'
   refine(over1_any c0.out 9 c ⟨#[]⟩ G b0 (wk_mono (show Wk (2*(j+1-(j+1))) G from ce.out) (by omega))).mono ?_
   rintro e dk ⟨T,z,r,rfl,hz,hp,bR,hr⟩
   have u1660:=Tq.of (ba.alloc (.cells #[.slice aa G.length P] 26)) hp hr
   rw[hz]at u1660
   have c7:=hid (show(V.alloc (.cells #[.slice aa G.length P] 26)).heap.size=V.heap.size+1 by simp)
   rw[c7.out]at u1660
   have dl:=hid u1660
   have Q:Below V.heap.size V dk:=((Below.refl _ _).alloc (Nat.le_refl _) _).trans (bR.mono (by simp))
   have bH:=hid (ba.keep Q)
   have cj:=hid (bo.keep Q)
   have aH:=hid (aN.keep Q)
   have ci:=hid (bv.keep Q)
   have d3:=hid (bu.keep Q)
   have cq:=hid (cG.trans (Gr.quiet Q))
   obtain⟨bt,bN,rfl,-⟩:=u1660.lies
   clear u1660 hz hp hr bR Q b0
   have cM:=bH.c
   have cA:=cj.bk.c5
   have dm:=aH.bk.c2
   have cJ:=aH.bk.f
   have cr:=ci.bk.c2
   go_wp2
   clear cM cA dm cJ cr
   obtain⟨dj,cS⟩:=(aH.bk.put2 (.slice bt (makeT (nd0 9 c ⟨#[]⟩) [G]).length bN) (.bool false)).c2
   exact bodyPost_ret (v:= .agg #[.slice bt (makeT (nd0 9 c ⟨#[]⟩) [G]).length bN,.bool false]) (by simp[results,Tryz.results62,go_sem,dj,cS]) rfl (by rw[HPR.out];exact rq_end HLT.out (show Sq w0 l a cap N0 s (j+1) true _ _ from bH.out) cq.out aH.out dl.out (by exact Nat.le_succ _) (by exact Nat.lt_succ_of_lt aN.bk.lt) (wk_mono (wk_one (show Wk (2*(j+1-(j+1))) G from ce.out)) (by omega)))
def unaryR(E:Ps->Nat->R)(l:List Tk)(i g:Bool)(j:Nat)(RP:R):R:=if kd l j=55\/kd l j=56\/kd l j=61 then over1 11 (kd l j) (E (cp 11 i g) (j+1))else RP
set_option maxHeartbeats 6400000 in
theorem unary_any(pl:Int)(pd pi pg psg:Bool)(w:World)(hst:Sq w0 l a cap N0 s j false v w)(hc:tk.Lies w0.heap.size w0 a l)(hl:l.length<=6000)(RP:R)(hP:∀(v:Value) (w:World),Sq w0 l a cap N0 s j false v w->Calls Tryz.prog 115 #[.pointer (some ⟨w0.heap.size,0,none⟩),.agg #[.int .i64 pl,.bool pd,.bool pi,.bool pg,.bool psg]] w (Rq w0 l a cap N0 s j v w RP))(hE:CallS w0 l a cap N0 s E (j+1))(oE:∀p i,i<=l.length->Ok M l i (E p i)):
  Calls Tryz.prog 114 #[.pointer (some ⟨w0.heap.size,0,none⟩),.agg #[.int .i64 pl,.bool pd,.bool pi,.bool pg,.bool psg]] w (Rq w0 l a cap N0 s j v w (unaryR E l pi pg j RP)):=by
 have HC:=hid hc
 have HL:=hid (show l.length<=100000 by omega)
 have bj:=hid hl
 have HE:=hid hE
 have OE:=hid oE
 have HP:=hid hP
 obtain⟨W,hW⟩:∃W,W=(w.alloc (.cells #[.int .i64 pl,.bool pd,.bool pi,.bool pg,.bool psg] 44)).alloc (.cells #[.slice none 0 0,.bool false] 95):=⟨_,rfl⟩
 have hB:Below w.heap.size w W:=by rw[hW];exact((Below.refl _ _).alloc (Nat.le_refl _) _).alloc (by simp) _
 have P0:=hid (show Mq w0.heap.size w.heap.size #[.int .i64 pl,.bool pd,.bool pi,.bool pg,.bool psg] 44 v W from Mq.of hst (by rw[hW];exact(Bk.new _ _ _).alloc _) (Nat.le_refl _))
 have R0:=hid (show Mq w0.heap.size (w.heap.size+1) #[.slice none 0 0,.bool false] 95 v W from Mq.of hst (by rw[hW];have:=Bk.new (w.alloc (.cells #[.int .i64 pl,.bool pd,.bool pi,.bool pg,.bool psg] 44)) #[.slice none 0 0,.bool false] 95;simpa using this) (Nat.le_succ _))
 have S0:=hid (hst.keep hB)
 have G0:=hid (show Gr (X0 w0.heap.size) v v w W from Gr.quiet hB)
 have HLT:=hid hst.lt
 have HBS:=hid hB.size
 have HJN:=hid hst.jn
 have HWS:=hid (show W.heap.size=w.heap.size+2 by rw[hW];simp)
 clear hB hst
 have HK:=hid (kind_any _ S0.out HC.out HL.out)
 clear hE oE hc hl hP
 by_cases hs:kd l j=55\/kd l j=56\/kd l j=61
 case pos=>
  have HPR:=hid (show unaryR E l pi pg j RP=over1 11 (kd l j) (E (cp 11 pi pg) (j+1))from if_pos hs)
  have HJ:=hid (kd_lt (l:=l) (i:=j) (by omega))
  obtain⟨RY,hRY⟩:∃R,E (cp 11 pi pg) (j+1)=R:=⟨_,rfl⟩
  have HRY:=hid hRY
  have ORY:=hid (show Ok M l (j+1) RY by rw[<-hRY];exact OE.out _ _ HJ.out)
  clear hRY
  rw[HRY.out]at HPR
  obtain⟨c,hcc⟩:∃c,kd l j=c:=⟨_,rfl⟩
  rw[hcc]at HPR HK hs
  have HCC:=hid hcc
  clear hcc
  have HV:=hid hs
  have hcond:(c==56||c==55||c==61)=true:=by rcases hs with rfl|rfl|rfl<;>rfl
  clear hs
  obtain⟨c1,c2,c3,c4⟩:=S0.c
  have m5:=P0.bk.c5
  have a6:=R0.bk.c2
  have a3:=R0.bk.f
  rw[hW]at c1 c2 c3 c4 m5 a6 a3
  rcases HV.out with hx|hx|hx
  ·subst hx
   clear hcond
   have aL:True:=trivial
   clear aL
   go_enter Tryz.func114,Tryz.ntmps114
   go_wp2_with fail
   rw[<-hW]
   clear c1 c2 c3 c4 m5 a6 a3 hW
   refine(HK.out).mono ?_
   rintro e bg ⟨rfl,y⟩
   have ab:=hid (S0.keep y)
   have V:=hid (P0.keep y)
   have U:=hid (R0.keep y)
   have a5:=hid (G0.trans (Gr.quiet y))
   clear y
   have a8:=ab.c
   have a7:=V.bk.c5
   have a4:=U.bk.c2
   go_wp2_with fail
   clear a8 a7 a4
   refine(take_yes 55 _ ab.out HC.out HL.out (by decide) (by decide) HCC.out).mono ?_
   rintro e bi ⟨rfl,ai,P⟩
   have ap:=hid ai
   have af:=hid (V.go P)
   have az:=hid (U.go P)
   have aS:=hid (a5.trans P)
   clear ai P
   have bc:=ap.c
   have aI:=af.bk.c5
   have aC:=az.bk.c2
   go_wp2_with fail
   clear bc aI aC
   refine(part_any _ _ _ _ _ _ _).mono ?_
   rintro e ar ⟨rfl,G⟩
   have ah:=hid (ap.keep G)
   have a1:=hid (af.keep G)
   have ac:=hid (az.keep G)
   have bb:=hid (aS.trans (Gr.quiet G))
   clear G
   have aQ:=ah.c
   have aH:=a1.bk.c5
   have be:=ac.bk.c2
   have aP:=ac.bk.f
   go_wp2_with fail
   clear aQ aH be aP
   refine(show Calls _ _ _ _ (Rq w0 l a cap N0 s (j+1) v ar RY) by rw[<-HRY.out];exact HE.out 11 pi pg false (j+1) v ar (by decide) (by decide) (by omega) ah.out).mono ?_
   rintro e H ⟨T,o,ay,aK,rfl,s9,J,t9,aw⟩
   have ag:=hid s9
   have aV:=hid (a1.go J)
   have aU:=hid (ac.go J)
   have aR:=hid (bb.trans J)
   have aG:=hid t9
   have ad:=hid aw
   obtain⟨K,N,rfl,aF⟩:=t9.lies
   clear s9 t9 J aw aF
   obtain⟨C,F⟩:∃W,W=H.alloc (.cells #[.slice K o.length N,.bool ay] 95):=⟨_,rfl⟩
   have D:Below H.heap.size H C:=by rw[F];exact(Below.refl _ _).alloc (Nat.le_refl _) _
   have an:=hid (show Mq w0.heap.size H.heap.size #[.slice K o.length N,.bool ay] 95 aK C from Mq.of ag.out (by rw[F];exact Bk.new _ _ _) (Nat.le_refl _))
   have aD:=hid (show C.heap.size=H.heap.size+1 by rw[F];simp)
   have Z:=hid (ag.keep D)
   have au:=hid (aV.keep D)
   have Q:=hid (aU.keep D)
   have ae:=hid (aG.out.keep D)
   have aB:=hid (aR.trans (Gr.quiet D))
   clear D
   have a0:=Z.c
   have ax:=au.bk.c5
   have a2:=Q.bk.c2
   have aq:=Q.bk.f
   have aj:=an.bk.c2
   rw[F]at a0 ax a2 aq aj
   go_wp2_with fail
   rw[<-F]
   clear a0 ax a2 aq aj F
   have al:=ae.lies'
   refine(over1_any aD.out 11 55 ⟨#[]⟩ o al (wk_mono (gt_wk ad.out ORY.out) (by have:=bj.out;have:=(ok_at ORY.out).2;omega))).mono ?_
   rintro e aT ⟨T,z,r,rfl,hz,hp,ak,hr⟩
   have u1100:=Tq.of (Z.alloc (.cells #[.slice K o.length N] 26)) hp hr
   rw[hz]at u1100
   have aX:=hid (show(C.alloc (.cells #[.slice K o.length N] 26)).heap.size=C.heap.size+1 by simp)
   rw[aX.out]at u1100
   have a9:=hid u1100
   have A:Below C.heap.size C aT:=((Below.refl _ _).alloc (Nat.le_refl _) _).trans (ak.mono (by simp))
   have aa:=hid (Z.keep A)
   have aZ:=hid (au.keep A)
   have O:=hid (Q.keep A)
   have aY:=hid (an.keep A)
   have bq:=hid (ae.keep A)
   have ba:=hid (aB.trans (Gr.quiet A))
   obtain⟨am,ao,rfl,-⟩:=u1100.lies
   clear u1100 hz hp hr ak A al
   have aO:=aa.c
   have aE:=aZ.bk.c5
   have aJ:=O.bk.c2
   have aW:=O.bk.f
   have aM:=aY.bk.c2
   go_wp2
   clear aO aE aJ aW aM
   obtain⟨aA,aN⟩:=(O.bk.put2 (.slice am (makeT (nd0 11 55 ⟨#[]⟩) [o]).length ao) (.bool false)).c2
   exact bodyPost_ret (v:= .agg #[.slice am (makeT (nd0 11 55 ⟨#[]⟩) [o]).length ao,.bool false]) (by simp[results,Tryz.results114,go_sem,aA,aN]) rfl (by rw[HPR.out];exact rq_end HLT.out (by first|exact aa.out|(simp only[at_over1,bd_over1,at_over2,bd_over2];exact aa.out)) ba.out O.out a9.out (by exact Nat.le_succ _) (by exact Nat.lt_succ_of_lt Q.bk.lt) (gt_over1 (Nat.lt_succ_self j) ad.out ORY.out))
  ·subst hx
   clear hcond
   have aL:True:=trivial
   clear aL
   go_enter Tryz.func114,Tryz.ntmps114
   go_wp2_with fail
   rw[<-hW]
   clear c1 c2 c3 c4 m5 a6 a3 hW
   refine(HK.out).mono ?_
   rintro e bg ⟨rfl,y⟩
   have ab:=hid (S0.keep y)
   have V:=hid (P0.keep y)
   have U:=hid (R0.keep y)
   have a5:=hid (G0.trans (Gr.quiet y))
   clear y
   have a8:=ab.c
   have a7:=V.bk.c5
   have a4:=U.bk.c2
   go_wp2_with fail
   clear a8 a7 a4
   refine(take_yes 56 _ ab.out HC.out HL.out (by decide) (by decide) HCC.out).mono ?_
   rintro e bi ⟨rfl,ai,P⟩
   have ap:=hid ai
   have af:=hid (V.go P)
   have az:=hid (U.go P)
   have aS:=hid (a5.trans P)
   clear ai P
   have bc:=ap.c
   have aI:=af.bk.c5
   have aC:=az.bk.c2
   go_wp2_with fail
   clear bc aI aC
   refine(part_any _ _ _ _ _ _ _).mono ?_
   rintro e ar ⟨rfl,G⟩
   have ah:=hid (ap.keep G)
   have a1:=hid (af.keep G)
   have ac:=hid (az.keep G)
   have bb:=hid (aS.trans (Gr.quiet G))
   clear G
   have aQ:=ah.c
   have aH:=a1.bk.c5
   have be:=ac.bk.c2
   have aP:=ac.bk.f
   go_wp2_with fail
   clear aQ aH be aP
   refine(show Calls _ _ _ _ (Rq w0 l a cap N0 s (j+1) v ar RY) by rw[<-HRY.out];exact HE.out 11 pi pg false (j+1) v ar (by decide) (by decide) (by omega) ah.out).mono ?_
   rintro e H ⟨T,o,ay,aK,rfl,s9,J,t9,aw⟩
   have ag:=hid s9
   have aV:=hid (a1.go J)
   have aU:=hid (ac.go J)
   have aR:=hid (bb.trans J)
   have aG:=hid t9
   have ad:=hid aw
   obtain⟨K,N,rfl,aF⟩:=t9.lies
   clear s9 t9 J aw aF
   obtain⟨C,F⟩:∃W,W=H.alloc (.cells #[.slice K o.length N,.bool ay] 95):=⟨_,rfl⟩
   have D:Below H.heap.size H C:=by rw[F];exact(Below.refl _ _).alloc (Nat.le_refl _) _
   have an:=hid (show Mq w0.heap.size H.heap.size #[.slice K o.length N,.bool ay] 95 aK C from Mq.of ag.out (by rw[F];exact Bk.new _ _ _) (Nat.le_refl _))
   have aD:=hid (show C.heap.size=H.heap.size+1 by rw[F];simp)
   have Z:=hid (ag.keep D)
   have au:=hid (aV.keep D)
   have Q:=hid (aU.keep D)
   have ae:=hid (aG.out.keep D)
   have aB:=hid (aR.trans (Gr.quiet D))
   clear D
   have a0:=Z.c
   have ax:=au.bk.c5
   have a2:=Q.bk.c2
   have aq:=Q.bk.f
   have aj:=an.bk.c2
   rw[F]at a0 ax a2 aq aj
   go_wp2_with fail
   rw[<-F]
   clear a0 ax a2 aq aj F
   have al:=ae.lies'
   refine(over1_any aD.out 11 56 ⟨#[]⟩ o al (wk_mono (gt_wk ad.out ORY.out) (by have:=bj.out;have:=(ok_at ORY.out).2;omega))).mono ?_
   rintro e aT ⟨T,z,r,rfl,hz,hp,ak,hr⟩
   have u1100:=Tq.of (Z.alloc (.cells #[.slice K o.length N] 26)) hp hr
   rw[hz]at u1100
   have aX:=hid (show(C.alloc (.cells #[.slice K o.length N] 26)).heap.size=C.heap.size+1 by simp)
   rw[aX.out]at u1100
   have a9:=hid u1100
   have A:Below C.heap.size C aT:=((Below.refl _ _).alloc (Nat.le_refl _) _).trans (ak.mono (by simp))
   have aa:=hid (Z.keep A)
   have aZ:=hid (au.keep A)
   have O:=hid (Q.keep A)
   have aY:=hid (an.keep A)
   have bq:=hid (ae.keep A)
   have ba:=hid (aB.trans (Gr.quiet A))
   obtain⟨am,ao,rfl,-⟩:=u1100.lies
   clear u1100 hz hp hr ak A al
   have aO:=aa.c
   have aE:=aZ.bk.c5
   have aJ:=O.bk.c2
   have aW:=O.bk.f
   have aM:=aY.bk.c2
   go_wp2
   clear aO aE aJ aW aM
   obtain⟨aA,aN⟩:=(O.bk.put2 (.slice am (makeT (nd0 11 56 ⟨#[]⟩) [o]).length ao) (.bool false)).c2
   exact bodyPost_ret (v:= .agg #[.slice am (makeT (nd0 11 56 ⟨#[]⟩) [o]).length ao,.bool false]) (by simp[results,Tryz.results114,go_sem,aA,aN]) rfl (by rw[HPR.out];exact rq_end HLT.out (by first|exact aa.out|(simp only[at_over1,bd_over1,at_over2,bd_over2];exact aa.out)) ba.out O.out a9.out (by exact Nat.le_succ _) (by exact Nat.lt_succ_of_lt Q.bk.lt) (gt_over1 (Nat.lt_succ_self j) ad.out ORY.out))
  ·subst hx
   clear hcond
   have aL:True:=trivial
   clear aL
   go_enter Tryz.func114,Tryz.ntmps114
   go_wp2_with fail
   rw[<-hW]
   clear c1 c2 c3 c4 m5 a6 a3 hW
   refine(HK.out).mono ?_
   rintro e bg ⟨rfl,y⟩
   have ab:=hid (S0.keep y)
   have V:=hid (P0.keep y)
   have U:=hid (R0.keep y)
   have a5:=hid (G0.trans (Gr.quiet y))
   clear y
   have a8:=ab.c
   have a7:=V.bk.c5
   have a4:=U.bk.c2
   go_wp2_with fail
   clear a8 a7 a4
   refine(take_yes 61 _ ab.out HC.out HL.out (by decide) (by decide) HCC.out).mono ?_
   rintro e bi ⟨rfl,ai,P⟩
   have ap:=hid ai
   have af:=hid (V.go P)
   have az:=hid (U.go P)
   have aS:=hid (a5.trans P)
   clear ai P
   have bc:=ap.c
   have aI:=af.bk.c5
   have aC:=az.bk.c2
   go_wp2_with fail
   clear bc aI aC
   refine(part_any _ _ _ _ _ _ _).mono ?_
   rintro e ar ⟨rfl,G⟩
   have ah:=hid (ap.keep G)
   have a1:=hid (af.keep G)
   have ac:=hid (az.keep G)
   have bb:=hid (aS.trans (Gr.quiet G))
   clear G
   have aQ:=ah.c
   have aH:=a1.bk.c5
   have be:=ac.bk.c2
   have aP:=ac.bk.f
   go_wp2_with fail
   clear aQ aH be aP
   refine(show Calls _ _ _ _ (Rq w0 l a cap N0 s (j+1) v ar RY) by rw[<-HRY.out];exact HE.out 11 pi pg false (j+1) v ar (by decide) (by decide) (by omega) ah.out).mono ?_
   rintro e H ⟨T,o,ay,aK,rfl,s9,J,t9,aw⟩
   have ag:=hid s9
   have aV:=hid (a1.go J)
   have aU:=hid (ac.go J)
   have aR:=hid (bb.trans J)
   have aG:=hid t9
   have ad:=hid aw
   obtain⟨K,N,rfl,aF⟩:=t9.lies
   clear s9 t9 J aw aF
   obtain⟨C,F⟩:∃W,W=H.alloc (.cells #[.slice K o.length N,.bool ay] 95):=⟨_,rfl⟩
   have D:Below H.heap.size H C:=by rw[F];exact(Below.refl _ _).alloc (Nat.le_refl _) _
   have an:=hid (show Mq w0.heap.size H.heap.size #[.slice K o.length N,.bool ay] 95 aK C from Mq.of ag.out (by rw[F];exact Bk.new _ _ _) (Nat.le_refl _))
   have aD:=hid (show C.heap.size=H.heap.size+1 by rw[F];simp)
   have Z:=hid (ag.keep D)
   have au:=hid (aV.keep D)
   have Q:=hid (aU.keep D)
   have ae:=hid (aG.out.keep D)
   have aB:=hid (aR.trans (Gr.quiet D))
   clear D
   have a0:=Z.c
   have ax:=au.bk.c5
   have a2:=Q.bk.c2
   have aq:=Q.bk.f
   have aj:=an.bk.c2
   rw[F]at a0 ax a2 aq aj
   go_wp2_with fail
   rw[<-F]
   clear a0 ax a2 aq aj F
   have al:=ae.lies'
   refine(over1_any aD.out 11 61 ⟨#[]⟩ o al (wk_mono (gt_wk ad.out ORY.out) (by have:=bj.out;have:=(ok_at ORY.out).2;omega))).mono ?_
   rintro e aT ⟨T,z,r,rfl,hz,hp,ak,hr⟩
   have u1100:=Tq.of (Z.alloc (.cells #[.slice K o.length N] 26)) hp hr
   rw[hz]at u1100
   have aX:=hid (show(C.alloc (.cells #[.slice K o.length N] 26)).heap.size=C.heap.size+1 by simp)
   rw[aX.out]at u1100
   have a9:=hid u1100
   have A:Below C.heap.size C aT:=((Below.refl _ _).alloc (Nat.le_refl _) _).trans (ak.mono (by simp))
   have aa:=hid (Z.keep A)
   have aZ:=hid (au.keep A)
   have O:=hid (Q.keep A)
   have aY:=hid (an.keep A)
   have bq:=hid (ae.keep A)
   have ba:=hid (aB.trans (Gr.quiet A))
   obtain⟨am,ao,rfl,-⟩:=u1100.lies
   clear u1100 hz hp hr ak A al
   have aO:=aa.c
   have aE:=aZ.bk.c5
   have aJ:=O.bk.c2
   have aW:=O.bk.f
   have aM:=aY.bk.c2
   go_wp2
   clear aO aE aJ aW aM
   obtain⟨aA,aN⟩:=(O.bk.put2 (.slice am (makeT (nd0 11 61 ⟨#[]⟩) [o]).length ao) (.bool false)).c2
   exact bodyPost_ret (v:= .agg #[.slice am (makeT (nd0 11 61 ⟨#[]⟩) [o]).length ao,.bool false]) (by simp[results,Tryz.results114,go_sem,aA,aN]) rfl (by rw[HPR.out];exact rq_end HLT.out (by first|exact aa.out|(simp only[at_over1,bd_over1,at_over2,bd_over2];exact aa.out)) ba.out O.out a9.out (by exact Nat.le_succ _) (by exact Nat.lt_succ_of_lt Q.bk.lt) (gt_over1 (Nat.lt_succ_self j) ad.out ORY.out))
 case neg=>
  have HPR:=hid (show unaryR E l pi pg j RP=RP from if_neg hs)
  obtain⟨c,hcc⟩:∃c,kd l j=c:=⟨_,rfl⟩
  rw[hcc]at HK hs
  have q1:(c==55)=false:=by rw[beq_eq_false_iff_ne];omega
  have q2:(c==56)=false:=by rw[beq_eq_false_iff_ne];omega
  have q3:(c==61)=false:=by rw[beq_eq_false_iff_ne];omega
  clear hs hcc
  obtain⟨c1,c2,c3,c4⟩:=S0.c
  have m5:=P0.bk.c5
  have a6:=R0.bk.c2
  have a3:=R0.bk.f
  rw[hW]at c1 c2 c3 c4 m5 a6 a3
  go_enter Tryz.func114,Tryz.ntmps114
  go_wp2_with fail
  rw[<-hW]
  clear c1 c2 c3 c4 m5 a6 a3 hW
  refine(HK.out).mono ?_
  rintro e bg ⟨rfl,y⟩
  have ab:=hid (S0.keep y)
  have V:=hid (P0.keep y)
  have U:=hid (R0.keep y)
  have a5:=hid (G0.trans (Gr.quiet y))
  clear y
  have a8:=ab.c
  have a7:=V.bk.c5
  have a4:=U.bk.c2
  go_wp2_with fail
  clear a8 a7 a4
  refine(HP.out v bg ab.out).mono ?_
  rintro e bi ⟨T,br,bp,b4,rfl,s9,bf,t9,bm⟩
  have bl:=hid s9
  have b2:=hid (V.go bf)
  have bh:=hid (U.go bf)
  have bw:=hid (a5.trans bf)
  have b1:=hid t9
  have bt:=hid bm
  obtain⟨bo,bn,rfl,bv⟩:=t9.lies
  clear s9 t9 bf bm bv
  have bu:=bl.c
  have b3:=b2.bk.c5
  have bx:=bh.bk.c2
  have b0:=bh.bk.f
  go_wp2
  clear bu b3 bx b0
  obtain⟨bs,bz⟩:=(bh.bk.put2 (.slice bo br.length bn) (.bool bp)).c2
  exact bodyPost_ret (v:= .agg #[.slice bo br.length bn,.bool bp]) (by simp[results,Tryz.results114,go_sem,bs,bz]) rfl (by rw[HPR.out];exact rq_end HLT.out bl.out bw.out bh.out b1.out (by exact Nat.le_succ _) (by exact U.bk.lt) (bt.out))
end
section
variable {w0:World} {l:List Tk} {a:Option Addr} {cap:Nat} {N0:List Tk} {s j:Nat} {v:Value} {E:Ps->Nat->R} {M:Nat}
def incr2R(l:List Tk):R->R
 | .bad m=> .bad m
 | .ok lv tg t m=>if(isInc (kd l m)&&tg)=true then fin 10 (kd l m) ⟨#[]⟩ [t] (m+1)else .ok lv tg t m
def incrR(E:Ps->Nat->R)(l:List Tk)(i g:Bool)(j:Nat)(RX:R):R:=if isInc (kd l j)=true then preR E l i g j else incr2R l RX
set_option maxHeartbeats 6400000 in
theorem incr_any(pl:Int)(pd pi pg psg:Bool)(w:World)(hst:Sq w0 l a cap N0 s j false v w)(hc:tk.Lies w0.heap.size w0 a l)(hl:l.length<=6000)(RX:R)(hX:∀(v:Value) (w:World),Sq w0 l a cap N0 s j false v w->Calls Tryz.prog 63 #[.pointer (some ⟨w0.heap.size,0,none⟩),.agg #[.int .i64 14,.bool false,.bool pi,.bool pg,.bool false]] w (Rq w0 l a cap N0 s j v w RX))(oX:Ok M l j RX)(hE:CallS w0 l a cap N0 s E (j+1))(oE:∀p i,i<=l.length->Ok M l i (E p i)):
  Calls Tryz.prog 116 #[.pointer (some ⟨w0.heap.size,0,none⟩),.agg #[.int .i64 pl,.bool pd,.bool pi,.bool pg,.bool psg]] w (Rq w0 l a cap N0 s j v w (incrR E l pi pg j RX)):=by
 have HC:=hid hc
 have HL:=hid (show l.length<=100000 by omega)
 have bp:=hid hl
 have HX:=hid hX
 have OX:=hid oX
 have HAT:=hid (ok_at oX)
 have cr:=hid hl
 obtain⟨W,hW⟩:∃W,W=(w.alloc (.cells #[.int .i64 pl,.bool pd,.bool pi,.bool pg,.bool psg] 44)).alloc (.cells #[.slice none 0 0,.bool false] 95):=⟨_,rfl⟩
 have hB:Below w.heap.size w W:=by rw[hW];exact((Below.refl _ _).alloc (Nat.le_refl _) _).alloc (by simp) _
 have P0:=hid (show Mq w0.heap.size w.heap.size #[.int .i64 pl,.bool pd,.bool pi,.bool pg,.bool psg] 44 v W from Mq.of hst (by rw[hW];exact(Bk.new _ _ _).alloc _) (Nat.le_refl _))
 have R0:=hid (show Mq w0.heap.size (w.heap.size+1) #[.slice none 0 0,.bool false] 95 v W from Mq.of hst (by rw[hW];have:=Bk.new (w.alloc (.cells #[.int .i64 pl,.bool pd,.bool pi,.bool pg,.bool psg] 44)) #[.slice none 0 0,.bool false] 95;simpa using this) (Nat.le_succ _))
 have S0:=hid (hst.keep hB)
 have G0:=hid (show Gr (X0 w0.heap.size) v v w W from Gr.quiet hB)
 have HLT:=hid hst.lt
 have HBS:=hid hB.size
 have HJN:=hid hst.jn
 have HWS:=hid (show W.heap.size=w.heap.size+2 by rw[hW];simp)
 clear hB hst
 have HK:=hid (kind_any _ S0.out HC.out HL.out)
 have HPRE:=hid (fun(w:World) (hst:Sq w0 l a cap N0 s j false v w) hk=>pre_any pl pd pi pg psg w hst hc hl hE oE hk)
 clear hE oE hc hl hX oX
 by_cases hs:isInc (kd l j)=true
 case pos=>
  have HPR:=hid (show incrR E l pi pg j RX=preR E l pi pg j from if_pos hs)
  have b6:=hid hs
  obtain⟨c,hcc⟩:∃c,kd l j=c:=⟨_,rfl⟩
  rw[hcc]at HK hs
  have HSG:=hid (fun W2=>signs_any c W2)
  rw[hs]at HSG
  clear hs hcc
  obtain⟨c1,c2,c3,c4⟩:=S0.c
  have m5:=P0.bk.c5
  have a9:=R0.bk.c2
  have aw:=R0.bk.f
  rw[hW]at c1 c2 c3 c4 m5 a9 aw
  go_enter Tryz.func116,Tryz.ntmps116
  go_wp2_with fail
  rw[<-hW]
  clear c1 c2 c3 c4 m5 a9 aw hW
  refine(HK.out).mono ?_
  rintro e bu ⟨rfl,N⟩
  have an:=hid (S0.keep N)
  have ah:=hid (P0.keep N)
  have ac:=hid (R0.keep N)
  have aX:=hid (G0.trans (Gr.quiet N))
  clear N
  have bf:=an.c
  have bb:=ah.bk.c5
  have aV:=ac.bk.c2
  go_wp2_with fail
  clear bf bb aV
  refine(HSG.out _).mono ?_
  rintro e ws ⟨rfl,rfl⟩
  have aP:=an.c
  have aR:=ah.bk.c5
  have aO:=ac.bk.c2
  go_wp2_with fail
  clear aP aR aO
  refine(HPRE.out bu an.out b6.out).mono ?_
  rintro e b3 ⟨T,b2,b1,cw,rfl,s9,aD,t9,bx⟩
  have a1:=hid s9
  have b9:=hid (ah.go aD)
  have aF:=hid (ac.go aD)
  have ci:=hid (aX.trans aD)
  have bM:=hid t9
  have bV:=hid bx
  obtain⟨bn,bh,rfl,bB⟩:=t9.lies
  clear s9 t9 aD bx bB
  have bA:=a1.c
  have bS:=b9.bk.c5
  have cg:=aF.bk.c2
  have cp:=aF.bk.f
  go_wp2
  clear bA bS cg cp
  obtain⟨co,b5⟩:=(aF.bk.put2 (.slice bn b2.length bh) (.bool b1)).c2
  exact bodyPost_ret (v:= .agg #[.slice bn b2.length bh,.bool b1]) (by simp[results,Tryz.results116,go_sem,co,b5]) rfl (by rw[HPR.out];exact rq_end HLT.out a1.out ci.out aF.out bM.out (by exact Nat.le_succ _) (by exact ac.bk.lt) (bV.out))
 case neg=>
  have hs':isInc (kd l j)=false:=by simpa using hs
  have aN:=hid (show incrR E l pi pg j RX=incr2R l RX from if_neg hs)
  obtain⟨c,hcc⟩:∃c,kd l j=c:=⟨_,rfl⟩
  rw[hcc]at HK hs'
  have HSG:=hid (fun W2=>signs_any c W2)
  rw[hs']at HSG
  clear hs hs' hcc
  obtain⟨c1,c2,c3,c4⟩:=S0.c
  have m5:=P0.bk.c5
  have a9:=R0.bk.c2
  have aw:=R0.bk.f
  rw[hW]at c1 c2 c3 c4 m5 a9 aw
  go_enter Tryz.func116,Tryz.ntmps116
  go_wp2_with fail
  rw[<-hW]
  clear c1 c2 c3 c4 m5 a9 aw hW
  refine(HK.out).mono ?_
  rintro e bu ⟨rfl,N⟩
  have an:=hid (S0.keep N)
  have ah:=hid (P0.keep N)
  have ac:=hid (R0.keep N)
  have aX:=hid (G0.trans (Gr.quiet N))
  clear N
  have bf:=an.c
  have bb:=ah.bk.c5
  have aV:=ac.bk.c2
  go_wp2_with fail
  clear bf bb aV
  refine(HSG.out _).mono ?_
  rintro e ws ⟨rfl,rfl⟩
  have aP:=an.c
  have aR:=ah.bk.c5
  have aO:=ac.bk.c2
  go_wp2_with fail
  clear aP aR aO
  refine(part_any _ _ _ _ _ _ _).mono ?_
  rintro e b3 ⟨rfl,a6⟩
  have a1:=hid (an.keep a6)
  have bz:=hid (ah.keep a6)
  have a4:=hid (ac.keep a6)
  have ch:=hid (aX.trans (Gr.quiet a6))
  clear a6
  have ca:=a1.c
  have bE:=bz.bk.c5
  have bQ:=a4.bk.c2
  go_wp2_with fail
  clear ca bE bQ
  refine(HX.out v b3 a1.out).mono ?_
  rintro e aA ⟨T,A,O,aW,rfl,s9,aM,t9,bl⟩
  have bm:=hid s9
  have cn:=hid (bz.go aM)
  have b7:=hid (a4.go aM)
  have bU:=hid (ch.trans aM)
  have bH:=hid t9
  have aq:=hid bl
  obtain⟨aa,G,rfl,cf⟩:=t9.lies
  clear s9 t9 aM bl cf
  have q63hW:=hid (show A.length<=20000 from Nat.le_trans (gt_wk aq.out OX.out).1 (by have:=bp.out;have:=HAT.out;omega))
  obtain⟨a7,D⟩:∃W,W=aA.alloc (.cells #[.slice aa A.length G,.bool O] 95):=⟨_,rfl⟩
  have ar:Below aA.heap.size aA a7:=by rw[D];exact(Below.refl _ _).alloc (Nat.le_refl _) _
  have ad:=hid (show Mq w0.heap.size aA.heap.size #[.slice aa A.length G,.bool O] 95 aW a7 from Mq.of bm.out (by rw[D];exact Bk.new _ _ _) (Nat.le_refl _))
  have cx:=hid (show a7.heap.size=aA.heap.size+1 by rw[D];simp)
  have b0:=hid (bm.keep ar)
  have ag:=hid (cn.keep ar)
  have H:=hid (b7.keep ar)
  have aE:=hid (bH.out.keep ar)
  have aL:=hid (bU.trans (Gr.quiet ar))
  clear ar
  cases RX with
  |bad m=>
   have Sb:=hid (show Sq w0 l a cap N0 s m true aW a7 from b0.out)
   have V:=Sb.c
   have P:=ag.bk.c5
   have Z:=H.bk.c2
   have U:=H.bk.f
   have Q:=ad.bk.c2
   rw[D]at V P Z U Q
   go_wp2_with fail
   rw[<-D]
   clear V P Z U Q D
   refine(kind_any _ Sb.out HC.out HL.out).mono ?_
   rintro e aU ⟨rfl,o⟩
   have F:=hid (Sb.keep o)
   have J:=hid (ag.keep o)
   have y:=hid (H.keep o)
   have K:=hid (ad.keep o)
   have ab:=hid (aE.keep o)
   have ap:=hid (aL.trans (Gr.quiet o))
   clear o
   have ai:=F.c
   have ao:=J.bk.c5
   have ak:=y.bk.c2
   have am:=y.bk.f
   have al:=K.bk.c2
   go_wp2
   clear ai ao ak am al
   obtain⟨cm,bL⟩:=(y.bk.put2 (.slice aa A.length G) (.bool O)).c2
   exact bodyPost_ret (v:= .agg #[.slice aa A.length G,.bool O]) (by simp[results,Tryz.results116,go_sem,cm,bL]) rfl (by rw[aN.out];exact rq_end HLT.out F.out ap.out y.out ab.out (by exact Nat.le_succ _) (by exact a4.bk.lt) (aq.out))
  |ok lv tg tx m=>
   have Sb:=hid (show Sq w0 l a cap N0 s m false aW a7 from b0.out)
   have htg:tg=put O A:=aq.out.2
   obtain⟨c2,ae⟩:∃c2,kd l m=c2:=⟨_,rfl⟩
   have bP:=hid ae
   have aJ:=hid (kind_any _ Sb.out HC.out HL.out)
   rw[ae]at aJ
   have ay:=hid (fun W2=>signs_any c2 W2)
   have HTG:=hid htg
   by_cases hs2:isInc c2=true
   case neg=>
    have bc:isInc c2=false:=by simpa using hs2
    rw[bc]at ay
    have HPR:=hid (show incrR E l pi pg j (.ok lv tg tx m)= .ok lv tg tx m from aN.trans (if_neg (show¬(isInc (kd l m)&&tg)=true by rw[ae,bc];simp)))
    clear hs2 bc ae htg
    have V:=Sb.c
    have P:=ag.bk.c5
    have Z:=H.bk.c2
    have U:=H.bk.f
    have Q:=ad.bk.c2
    rw[D]at V P Z U Q
    go_wp2_with fail
    rw[<-D]
    clear V P Z U Q D
    refine(aJ.out).mono ?_
    rintro e aU ⟨rfl,o⟩
    have F:=hid (Sb.keep o)
    have J:=hid (ag.keep o)
    have y:=hid (H.keep o)
    have K:=hid (ad.keep o)
    have ab:=hid (aE.keep o)
    have ap:=hid (aL.trans (Gr.quiet o))
    clear o
    have ai:=F.c
    have ao:=J.bk.c5
    have ak:=y.bk.c2
    have am:=y.bk.f
    have al:=K.bk.c2
    go_wp2_with fail
    clear ai ao ak am al
    refine(ay.out _).mono ?_
    rintro e ws ⟨rfl,rfl⟩
    have a3:=F.c
    have ax:=J.bk.c5
    have az:=y.bk.c2
    have a8:=y.bk.f
    have a0:=K.bk.c2
    go_wp2
    clear a3 ax az a8 a0
    obtain⟨b4,bY⟩:=(y.bk.put2 (.slice aa A.length G) (.bool O)).c2
    exact bodyPost_ret (v:= .agg #[.slice aa A.length G,.bool O]) (by simp[results,Tryz.results116,go_sem,b4,bY]) rfl (by rw[HPR.out];exact rq_end HLT.out F.out ap.out y.out ab.out (by exact Nat.le_succ _) (by exact a4.bk.lt) (aq.out))
   case pos=>
    have br:=hid (inc_vals hs2)
    rw[hs2]at ay
    cases tg with
    |false=>
     have HPR:=hid (show incrR E l pi pg j (.ok lv false tx m)= .ok lv false tx m from aN.trans (if_neg (show¬(isInc (kd l m)&&false)=true by simp)))
     clear hs2 ae htg
     have V:=Sb.c
     have P:=ag.bk.c5
     have Z:=H.bk.c2
     have U:=H.bk.f
     have Q:=ad.bk.c2
     rw[D]at V P Z U Q
     go_wp2_with fail
     rw[<-D]
     clear V P Z U Q D
     refine(aJ.out).mono ?_
     rintro e aU ⟨rfl,o⟩
     have F:=hid (Sb.keep o)
     have J:=hid (ag.keep o)
     have y:=hid (H.keep o)
     have K:=hid (ad.keep o)
     have ab:=hid (aE.keep o)
     have ap:=hid (aL.trans (Gr.quiet o))
     clear o
     have ai:=F.c
     have ao:=J.bk.c5
     have ak:=y.bk.c2
     have am:=y.bk.f
     have al:=K.bk.c2
     go_wp2_with fail
     clear ai ao ak am al
     refine(ay.out _).mono ?_
     rintro e ws ⟨rfl,rfl⟩
     have a3:=F.c
     have ax:=J.bk.c5
     have az:=y.bk.c2
     have a8:=y.bk.f
     have a0:=K.bk.c2
     go_wp2_with fail
     clear a3 ax az a8 a0
     have a5:=ab.lies'
     have HPT:=hid (put_any A _ G O _ a5 (by have:=q63hW.out;omega))
     rw[<-HTG.out]at HPT
     clear a5
     refine(HPT.out).mono ?_
     rintro e bN ⟨rfl,C⟩
     have a2:=hid (F.keep C)
     have aC:=hid (J.keep C)
     have af:=hid (y.keep C)
     have aH:=hid (K.keep C)
     have aB:=hid (ab.keep C)
     have aY:=hid (ap.trans (Gr.quiet C))
     clear C
     have aS:=a2.c
     have aQ:=aC.bk.c5
     have aZ:=af.bk.c2
     have ba:=af.bk.f
     have be:=aH.bk.c2
     go_wp2
     clear aS aQ aZ ba be
     have bC:=aB.lies'
     clear bC
     obtain⟨cq,cb⟩:=(af.bk.put2 (.slice aa A.length G) (.bool O)).c2
     exact bodyPost_ret (v:= .agg #[.slice aa A.length G,.bool O]) (by simp[results,Tryz.results116,go_sem,cq,cb]) rfl (by rw[HPR.out];exact rq_end HLT.out a2.out aY.out af.out aB.out (by exact Nat.le_succ _) (by exact a4.bk.lt) (aq.out))
    |true=>
     have HPR:=hid (show incrR E l pi pg j (.ok lv true tx m)=fin 10 c2 ⟨#[]⟩ [tx] (m+1)from aN.trans (by rw[<-ae];exact if_pos (show(isInc (kd l m)&&true)=true by rw[ae,hs2];rfl)))
     clear hs2 ae htg
     have V:=Sb.c
     have P:=ag.bk.c5
     have Z:=H.bk.c2
     have U:=H.bk.f
     have Q:=ad.bk.c2
     rw[D]at V P Z U Q
     go_wp2_with fail
     rw[<-D]
     clear V P Z U Q D
     refine(aJ.out).mono ?_
     rintro e aU ⟨rfl,o⟩
     have F:=hid (Sb.keep o)
     have J:=hid (ag.keep o)
     have y:=hid (H.keep o)
     have K:=hid (ad.keep o)
     have ab:=hid (aE.keep o)
     have ap:=hid (aL.trans (Gr.quiet o))
     clear o
     have ai:=F.c
     have ao:=J.bk.c5
     have ak:=y.bk.c2
     have am:=y.bk.f
     have al:=K.bk.c2
     go_wp2_with fail
     clear ai ao ak am al
     refine(ay.out _).mono ?_
     rintro e ws ⟨rfl,rfl⟩
     have a3:=F.c
     have ax:=J.bk.c5
     have az:=y.bk.c2
     have a8:=y.bk.f
     have a0:=K.bk.c2
     go_wp2_with fail
     clear a3 ax az a8 a0
     have a5:=ab.lies'
     have HPT:=hid (put_any A _ G O _ a5 (by have:=q63hW.out;omega))
     rw[<-HTG.out]at HPT
     clear a5
     refine(HPT.out).mono ?_
     rintro e bN ⟨rfl,C⟩
     have a2:=hid (F.keep C)
     have aC:=hid (J.keep C)
     have af:=hid (y.keep C)
     have aH:=hid (K.keep C)
     have aB:=hid (ab.keep C)
     have aY:=hid (ap.trans (Gr.quiet C))
     clear C
     have aS:=a2.c
     have aQ:=aC.bk.c5
     have aZ:=af.bk.c2
     have ba:=af.bk.f
     have be:=aH.bk.c2
     go_wp2_with fail
     clear aS aQ aZ ba be
     refine(take_yes c2 _ a2.out HC.out HL.out (by have:=br.out;omega) (by have:=br.out;omega) bP.out).mono ?_
     rintro e aG ⟨rfl,bq,au⟩
     have aT:=hid bq
     have bv:=hid (aC.go au)
     have aI:=hid (af.go au)
     have bi:=hid (aH.go au)
     have bw:=hid (aB.go au)
     have cd:=hid (aY.trans au)
     clear bq au
     have bW:=aT.c
     have bX:=bv.bk.c5
     have bK:=aI.bk.c2
     have b8:=aI.bk.f
     have ce:=bi.bk.c2
     go_wp2_with fail
     clear bW bX bK b8 ce
     have bo:=bw.lies'
     refine(over1_any rfl 10 c2 ⟨#[]⟩ A bo (wk_mono (gt_wk aq.out OX.out) (by have:=bp.out;have:=HAT.out;omega))).mono ?_
     rintro e bZ ⟨T,z,r,rfl,hz,hp,bg,hr⟩
     have u1870:=Tq.of (aT.alloc (.cells #[.slice aa A.length G] 26)) hp hr
     rw[hz]at u1870
     have bR:=hid (show(aG.alloc (.cells #[.slice aa A.length G] 26)).heap.size=aG.heap.size+1 by simp)
     rw[bR.out]at u1870
     have bI:=hid u1870
     have aj:Below aG.heap.size aG bZ:=((Below.refl _ _).alloc (Nat.le_refl _) _).trans (bg.mono (by simp))
     have bj:=hid (aT.keep aj)
     have bJ:=hid (bv.keep aj)
     have aK:=hid (aI.keep aj)
     have bF:=hid (bi.keep aj)
     have ct:=hid (bw.keep aj)
     have cl:=hid (cd.trans (Gr.quiet aj))
     obtain⟨bt,bs,rfl,-⟩:=u1870.lies
     clear u1870 hz hp hr bg aj bo
     have bT:=bj.c
     have bG:=bJ.bk.c5
     have bO:=aK.bk.c2
     have ck:=aK.bk.f
     have bD:=bF.bk.c2
     go_wp2
     clear bT bG bO ck bD
     obtain⟨cc,cj⟩:=(aK.bk.put2 (.slice bt (makeT (nd0 10 c2 ⟨#[]⟩) [A]).length bs) (.bool false)).c2
     exact bodyPost_ret (v:= .agg #[.slice bt (makeT (nd0 10 c2 ⟨#[]⟩) [A]).length bs,.bool false]) (by simp[results,Tryz.results116,go_sem,cc,cj]) rfl (by rw[HPR.out];exact rq_end HLT.out bj.out cl.out aK.out bI.out (by exact Nat.le_succ _) (by exact Nat.lt_succ_of_lt aI.bk.lt) (⟨by rw[aq.out.1],(put_make _ _ _ _).symm⟩))
end
section
variable {w0:World} {l:List Tk} {a:Option Addr} {cap:Nat} {N0:List Tk} {s j:Nat} {v:Value} {E:Ps->Nat->R} {M:Nat}
def fieldR(E:Ps->Nat->R)(l:List Tk)(i g:Bool)(j:Nat)(RP:R):R:=if kd l j=68 then over1 6 0 (E ⟨14,true,i,g,false⟩ (j+1))else RP
set_option maxHeartbeats 6400000 in
theorem field_any(pl:Int)(pd pi pg psg:Bool)(w:World)(hst:Sq w0 l a cap N0 s j false v w)(hc:tk.Lies w0.heap.size w0 a l)(hl:l.length<=6000)(RP:R)(hP:∀(v:Value) (w:World),Sq w0 l a cap N0 s j false v w->Calls Tryz.prog 118 #[.pointer (some ⟨w0.heap.size,0,none⟩)] w (Rq w0 l a cap N0 s j v w RP))(hE:CallS w0 l a cap N0 s E (j+1))(oE:∀p i,i<=l.length->Ok M l i (E p i))(E':Ps->Nat->R)(hE':CallS w0 l a cap N0 s E' (j+1+1))(oE':∀p i,i<=l.length->Ok M l i (E' p i))(hD:kd l j=68->E ⟨14,true,pi,pg,false⟩ (j+1)=if isInc (kd l (j+1))=true then preR E' l pi pg (j+1)else E (cp 14 pi pg) (j+1)):
  Calls Tryz.prog 117 #[.pointer (some ⟨w0.heap.size,0,none⟩),.agg #[.int .i64 pl,.bool pd,.bool pi,.bool pg,.bool psg]] w (Rq w0 l a cap N0 s j v w (fieldR E l pi pg j RP)):=by
 have HC:=hid hc
 have HL:=hid (show l.length<=100000 by omega)
 have b9:=hid hl
 have HP:=hid hP
 have HE:=hid hE
 have OE:=hid oE
 have HPRE:=hid (fun(v:Value) (w:World) (hst:Sq w0 l a cap N0 s (j+1) false v w) hk=>pre_any pl pd pi pg psg w hst hc hl hE' oE' hk)
 obtain⟨W,hW⟩:∃W,W=(w.alloc (.cells #[.int .i64 pl,.bool pd,.bool pi,.bool pg,.bool psg] 44)).alloc (.cells #[.slice none 0 0,.bool false] 95):=⟨_,rfl⟩
 have hB:Below w.heap.size w W:=by rw[hW];exact((Below.refl _ _).alloc (Nat.le_refl _) _).alloc (by simp) _
 have P0:=hid (show Mq w0.heap.size w.heap.size #[.int .i64 pl,.bool pd,.bool pi,.bool pg,.bool psg] 44 v W from Mq.of hst (by rw[hW];exact(Bk.new _ _ _).alloc _) (Nat.le_refl _))
 have R0:=hid (show Mq w0.heap.size (w.heap.size+1) #[.slice none 0 0,.bool false] 95 v W from Mq.of hst (by rw[hW];have:=Bk.new (w.alloc (.cells #[.int .i64 pl,.bool pd,.bool pi,.bool pg,.bool psg] 44)) #[.slice none 0 0,.bool false] 95;simpa using this) (Nat.le_succ _))
 have S0:=hid (hst.keep hB)
 have G0:=hid (show Gr (X0 w0.heap.size) v v w W from Gr.quiet hB)
 have HLT:=hid hst.lt
 have HBS:=hid hB.size
 have HJN:=hid hst.jn
 have HWS:=hid (show W.heap.size=w.heap.size+2 by rw[hW];simp)
 clear hB hst
 have HK:=hid (kind_any _ S0.out HC.out HL.out)
 clear hE oE hE' oE' hc hl hP
 by_cases hs:kd l j=68
 case neg=>
  have HPR:=hid (show fieldR E l pi pg j RP=RP from if_neg hs)
  obtain⟨c,hcc⟩:∃c,kd l j=c:=⟨_,rfl⟩
  rw[hcc]at HK hs
  obtain⟨q1,q2⟩:=ne_facts hs
  clear hs hcc hD
  obtain⟨c1,c2,c3,c4⟩:=S0.c
  have m5:=P0.bk.c5
  have a0:=R0.bk.c2
  have al:=R0.bk.f
  rw[hW]at c1 c2 c3 c4 m5 a0 al
  go_enter Tryz.func117,Tryz.ntmps117
  go_wp2_with fail
  rw[<-hW]
  clear c1 c2 c3 c4 m5 a0 al hW
  refine(HK.out).mono ?_
  rintro e bE ⟨rfl,D⟩
  have ax:=hid (S0.keep D)
  have ak:=hid (P0.keep D)
  have ag:=hid (R0.keep D)
  have aO:=hid (G0.trans (Gr.quiet D))
  clear D
  have bb:=ax.c
  have ba:=ak.bk.c5
  have aN:=ag.bk.c2
  go_wp2_with fail
  clear bb ba aN
  refine(HP.out v bE ax.out).mono ?_
  rintro e o ⟨T,bO,b0,cY,rfl,s9,a2,t9,bh⟩
  have bf:=hid s9
  have cJ:=hid (ak.go a2)
  have aD:=hid (ag.go a2)
  have cy:=hid (aO.trans a2)
  have cD:=hid t9
  have bQ:=hid bh
  obtain⟨bn,bi,rfl,cj⟩:=t9.lies
  clear s9 t9 a2 bh cj
  have cb:=bf.c
  have cT:=cJ.bk.c5
  have c6:=aD.bk.c2
  have c9:=aD.bk.f
  go_wp2
  clear cb cT c6 c9
  obtain⟨bP,c7⟩:=(aD.bk.put2 (.slice bn bO.length bi) (.bool b0)).c2
  exact bodyPost_ret (v:= .agg #[.slice bn bO.length bi,.bool b0]) (by simp[results,Tryz.results117,go_sem,bP,c7]) rfl (by rw[HPR.out];exact rq_end HLT.out bf.out cy.out aD.out cD.out (by exact Nat.le_succ _) (by exact ag.bk.lt) (bQ.out))
 case pos=>
  have HPR:=hid (show fieldR E l pi pg j RP=over1 6 0 (E ⟨14,true,pi,pg,false⟩ (j+1))from if_pos hs)
  have HD:=hid (hD hs)
  have HJ:=hid (kd_lt (l:=l) (i:=j) (by omega))
  rw[hs]at HK
  have HCC:=hid hs
  obtain⟨RY,hRY⟩:∃R,E ⟨14,true,pi,pg,false⟩ (j+1)=R:=⟨_,rfl⟩
  have HRY:=hid hRY
  have ORY:=hid (show Ok M l (j+1) RY by rw[<-hRY];exact OE.out _ _ HJ.out)
  clear hRY
  rw[HRY.out]at HPR
  clear hs hD
  obtain⟨c1,c2,c3,c4⟩:=S0.c
  have m5:=P0.bk.c5
  have a0:=R0.bk.c2
  have al:=R0.bk.f
  rw[hW]at c1 c2 c3 c4 m5 a0 al
  go_enter Tryz.func117,Tryz.ntmps117
  go_wp2_with fail
  rw[<-hW]
  clear c1 c2 c3 c4 m5 a0 al hW
  refine(HK.out).mono ?_
  rintro e bE ⟨rfl,D⟩
  have ax:=hid (S0.keep D)
  have ak:=hid (P0.keep D)
  have ag:=hid (R0.keep D)
  have aO:=hid (G0.trans (Gr.quiet D))
  clear D
  have bb:=ax.c
  have ba:=ak.bk.c5
  have aN:=ag.bk.c2
  go_wp2_with fail
  clear bb ba aN
  refine(take_yes 68 _ ax.out HC.out HL.out (by decide) (by decide) HCC.out).mono ?_
  rintro e o ⟨rfl,b1,aA⟩
  have bD:=hid b1
  have br:=hid (ak.go aA)
  have bK:=hid (ag.go aA)
  have cI:=hid (aO.trans aA)
  clear b1 aA
  have a6:=hid (show w.heap.size<o.heap.size from br.bk.lt)
  have Q:=hid (show(w.heap.size+1)<o.heap.size from bK.bk.lt)
  obtain⟨aW,P⟩:∃W,W=o.alloc (.cells #[.slice none 0 0,.bool false] 95):=⟨_,rfl⟩
  have am:Below o.heap.size o aW:=by rw[P];exact(Below.refl _ _).alloc (Nat.le_refl _) _
  have a1:=hid (show Mq w0.heap.size o.heap.size #[.slice none 0 0,.bool false] 95 v aW from Mq.of bD.out (by rw[P];exact Bk.new _ _ _) (Nat.le_refl _))
  have dc:=hid (show aW.heap.size=o.heap.size+1 by rw[P];simp)
  have aj:=hid (bD.keep am)
  have a3:=hid (br.keep am)
  have a4:=hid (bK.keep am)
  have bm:=hid (cI.trans (Gr.quiet am))
  clear am
  have aS:=hid (kind_any _ aj.out HC.out HL.out)
  obtain⟨c,hcc⟩:∃c,kd l (j+1)=c:=⟨_,rfl⟩
  rw[hcc]at aS
  have HSG:=hid (fun W2=>signs_any c W2)
  have cZ:=hid hcc
  by_cases hi:isInc c=true
  case pos=>
   have HRE:=hid (show RY=preR _ l pi pg (j+1) by rw[<-HRY.out,HD.out,hcc,if_pos hi])
   have HI:=hid (show isInc (kd l (j+1))=true by rw[hcc];exact hi)
   rw[hi]at HSG
   clear hi hcc
   have aw:=aj.c
   have ar:=a3.bk.c5
   have az:=a4.bk.c2
   have au:=a1.bk.c2
   rw[P]at aw ar az au
   go_wp2_with fail
   rw[<-P]
   clear aw ar az au P
   refine(aS.out).mono ?_
   rintro e aQ ⟨rfl,y⟩
   have af:=hid (aj.keep y)
   have ab:=hid (a3.keep y)
   have ae:=hid (a4.keep y)
   have O:=hid (a1.keep y)
   have aL:=hid (bm.trans (Gr.quiet y))
   clear y
   have aM:=af.c
   have aG:=ab.bk.c5
   have aY:=ae.bk.c2
   have aI:=O.bk.c2
   go_wp2_with fail
   clear aM aG aY aI
   refine(HSG.out _).mono ?_
   rintro e ws ⟨rfl,rfl⟩
   have aH:=af.c
   have aZ:=ab.bk.c5
   have aX:=ae.bk.c2
   have aV:=O.bk.c2
   go_wp2_with fail
   clear aH aZ aX aV
   refine(show Calls _ _ _ _ (Rq w0 l a cap N0 s (j+1) v aQ RY) by rw[HRE.out];exact HPRE.out v aQ af.out HI.out).mono ?_
   rintro e ay ⟨T,A,aa,bF,rfl,s9,an,t9,bB⟩
   have ao:=hid s9
   have bs:=hid (ab.go an)
   have b5:=hid (ae.go an)
   have ap:=hid (O.go an)
   have cr:=hid (aL.trans an)
   have cz:=hid t9
   have bt:=hid bB
   obtain⟨N,G,rfl,ca⟩:=t9.lies
   clear s9 t9 an bB ca
   have c8:=ao.c
   have cA:=bs.bk.c5
   have ci:=b5.bk.c2
   have cR:=ap.bk.c2
   have cG:=ap.bk.f
   obtain⟨Z,K⟩:∃W,W=((ay.setCell ⟨o.heap.size,0,none⟩ (.slice N A.length G)).setCell ⟨o.heap.size,1,none⟩ (.bool aa)):=⟨_,rfl⟩
   have aU:=hid (by rw[K];exact((ao.out).mset ap.out 0 _).mset (ap.set 0 (.slice N A.length G)) 1 _:Sq w0 l a cap N0 s (atQ RY) (bdQ RY) bF Z)
   have aT:=hid ((bs.oth (k:=o.heap.size) (by have:=a6.out;omega) 0 (.slice N A.length G)).oth (k:=o.heap.size) (by have:=a6.out;omega) 1 (.bool aa))
   rw[<-K]at aT
   have a9:=hid ((b5.oth (k:=o.heap.size) (by have:=Q.out;omega) 0 (.slice N A.length G)).oth (k:=o.heap.size) (by have:=Q.out;omega) 1 (.bool aa))
   rw[<-K]at a9
   have bg:=hid (by rw[K];exact((ap.set 0 (.slice N A.length G)).set 1 (.bool aa)):Mq w0.heap.size o.heap.size #[.slice N A.length G,.bool aa] 95 bF Z)
   have aF:=hid ((cz.out.low (g:=o.heap.size) (O.bk.lt) 0 (.slice N A.length G)).low (g:=o.heap.size) (O.bk.lt) 1 (.bool aa))
   rw[<-K]at aF
   have bM:=hid ((cr.set (g:=o.heap.size) (.inr (by have:=Q.out;omega)) 0 (.slice N A.length G)).set (g:=o.heap.size) (.inr (by have:=Q.out;omega)) 1 (.bool aa))
   rw[<-K]at bM
   have cE:=hid (show Z.heap.size=ay.heap.size by rw[K];simp)
   have bz:=aU.c
   have bo:=aT.bk.c5
   have b4:=a9.bk.c2
   have bG:=bg.bk.c2
   rw[K]at bz bo b4 bG
   go_wp2_with fail
   rw[<-K]
   clear c8 cA ci cR cG bz bo b4 bG K
   have bc:=aF.lies'
   refine(over1_any cE.out 6 0 ⟨#[]⟩ A bc (wk_mono (gt_wk bt.out ORY.out) (by have:=b9.out;have:=(ok_at ORY.out).2;omega))).mono ?_
   rintro e cM ⟨T,z,r,rfl,hz,hp,bv,hr⟩
   have u1500:=Tq.of (aU.alloc (.cells #[.slice N A.length G] 26)) hp hr
   rw[hz]at u1500
   have cn:=hid (show(Z.alloc (.cells #[.slice N A.length G] 26)).heap.size=Z.heap.size+1 by simp)
   rw[cn.out]at u1500
   have cf:=hid u1500
   have V:Below Z.heap.size Z cM:=((Below.refl _ _).alloc (Nat.le_refl _) _).trans (bv.mono (by simp))
   have aE:=hid (aU.keep V)
   have ch:=hid (aT.keep V)
   have a8:=hid (a9.keep V)
   have cx:=hid (bg.keep V)
   have da:=hid (aF.keep V)
   have cX:=hid (bM.trans (Gr.quiet V))
   obtain⟨bl,bq,rfl,-⟩:=u1500.lies
   clear u1500 hz hp hr bv V bc
   have bX:=aE.c
   have a5:=ch.bk.c5
   have bS:=a8.bk.c2
   have cF:=a8.bk.f
   have cH:=cx.bk.c2
   go_wp2
   clear bX a5 bS cF cH
   obtain⟨cd,cl⟩:=(a8.bk.put2 (.slice bl (makeT (nd0 6 0 ⟨#[]⟩) [A]).length bq) (.bool false)).c2
   exact bodyPost_ret (v:= .agg #[.slice bl (makeT (nd0 6 0 ⟨#[]⟩) [A]).length bq,.bool false]) (by simp[results,Tryz.results117,go_sem,cd,cl]) rfl (by rw[HPR.out];exact rq_end HLT.out (by first|exact aE.out|(simp only[at_over1,bd_over1,at_over2,bd_over2];exact aE.out)) cX.out a8.out cf.out (by exact Nat.le_succ _) (by exact Nat.lt_succ_of_lt a9.bk.lt) (gt_over1 (Nat.lt_succ_self j) bt.out ORY.out))
  case neg=>
   have HRE:=hid (show RY=E (cp 14 pi pg) (j+1) by rw[<-HRY.out,HD.out,hcc,if_neg hi])
   have hi':isInc c=false:=by simpa using hi
   rw[hi']at HSG
   clear hi hi' hcc
   have aw:=aj.c
   have ar:=a3.bk.c5
   have az:=a4.bk.c2
   have au:=a1.bk.c2
   rw[P]at aw ar az au
   go_wp2_with fail
   rw[<-P]
   clear aw ar az au P
   refine(aS.out).mono ?_
   rintro e aQ ⟨rfl,y⟩
   have af:=hid (aj.keep y)
   have ab:=hid (a3.keep y)
   have ae:=hid (a4.keep y)
   have O:=hid (a1.keep y)
   have aL:=hid (bm.trans (Gr.quiet y))
   clear y
   have aM:=af.c
   have aG:=ab.bk.c5
   have aY:=ae.bk.c2
   have aI:=O.bk.c2
   go_wp2_with fail
   clear aM aG aY aI
   refine(HSG.out _).mono ?_
   rintro e ws ⟨rfl,rfl⟩
   have aH:=af.c
   have aZ:=ab.bk.c5
   have aX:=ae.bk.c2
   have aV:=O.bk.c2
   go_wp2_with fail
   clear aH aZ aX aV
   refine(part_any _ _ _ _ _ _ _).mono ?_
   rintro e ay ⟨rfl,ah⟩
   have ao:=hid (af.keep ah)
   have b6:=hid (ab.keep ah)
   have bH:=hid (ae.keep ah)
   have a7:=hid (O.keep ah)
   have cQ:=hid (aL.trans (Gr.quiet ah))
   clear ah
   have bW:=ao.c
   have bY:=b6.bk.c5
   have cW:=bH.bk.c2
   have bR:=a7.bk.c2
   go_wp2_with fail
   clear bW bY cW bR
   refine(show Calls _ _ _ _ (Rq w0 l a cap N0 s (j+1) v ay RY) by rw[HRE.out];exact HE.out 14 pi pg false (j+1) v ay (by decide) (by decide) (by omega) ao.out).mono ?_
   rintro e b8 ⟨T,C,ac,b3,rfl,s9,aq,t9,bC⟩
   have be:=hid s9
   have b7:=hid (b6.go aq)
   have bx:=hid (bH.go aq)
   have ai:=hid (a7.go aq)
   have cq:=hid (cQ.trans aq)
   have cL:=hid t9
   have bj:=hid bC
   obtain⟨H,J,rfl,ck⟩:=t9.lies
   clear s9 t9 aq bC ck
   have cV:=be.c
   have cC:=b7.bk.c5
   have bU:=bx.bk.c2
   have ct:=ai.bk.c2
   have cK:=ai.bk.f
   obtain⟨U,F⟩:∃W,W=((b8.setCell ⟨o.heap.size,0,none⟩ (.slice H C.length J)).setCell ⟨o.heap.size,1,none⟩ (.bool ac)):=⟨_,rfl⟩
   have aK:=hid (by rw[F];exact((be.out).mset ai.out 0 _).mset (ai.set 0 (.slice H C.length J)) 1 _:Sq w0 l a cap N0 s (atQ RY) (bdQ RY) b3 U)
   have aR:=hid ((b7.oth (k:=o.heap.size) (by have:=a6.out;omega) 0 (.slice H C.length J)).oth (k:=o.heap.size) (by have:=a6.out;omega) 1 (.bool ac))
   rw[<-F]at aR
   have aB:=hid ((bx.oth (k:=o.heap.size) (by have:=Q.out;omega) 0 (.slice H C.length J)).oth (k:=o.heap.size) (by have:=Q.out;omega) 1 (.bool ac))
   rw[<-F]at aB
   have bw:=hid (by rw[F];exact((ai.set 0 (.slice H C.length J)).set 1 (.bool ac)):Mq w0.heap.size o.heap.size #[.slice H C.length J,.bool ac] 95 b3 U)
   have aJ:=hid ((cL.out.low (g:=o.heap.size) (a7.bk.lt) 0 (.slice H C.length J)).low (g:=o.heap.size) (a7.bk.lt) 1 (.bool ac))
   rw[<-F]at aJ
   have b2:=hid ((cq.set (g:=o.heap.size) (.inr (by have:=Q.out;omega)) 0 (.slice H C.length J)).set (g:=o.heap.size) (.inr (by have:=Q.out;omega)) 1 (.bool ac))
   rw[<-F]at b2
   have bT:=hid (show U.heap.size=b8.heap.size by rw[F];simp)
   have bI:=aK.c
   have bN:=aR.bk.c5
   have bA:=aB.bk.c2
   have a5:=bw.bk.c2
   rw[F]at bI bN bA a5
   go_wp2_with fail
   rw[<-F]
   clear cV cC bU ct cK bI bN bA a5 F
   have bp:=aJ.lies'
   refine(over1_any bT.out 6 0 ⟨#[]⟩ C bp (wk_mono (gt_wk bj.out ORY.out) (by have:=b9.out;have:=(ok_at ORY.out).2;omega))).mono ?_
   rintro e co ⟨T,z,r,rfl,hz,hp,bJ,hr⟩
   have u1700:=Tq.of (aK.alloc (.cells #[.slice H C.length J] 26)) hp hr
   rw[hz]at u1700
   have ce:=hid (show(U.alloc (.cells #[.slice H C.length J] 26)).heap.size=U.heap.size+1 by simp)
   rw[ce.out]at u1700
   have bV:=hid u1700
   have ad:Below U.heap.size U co:=((Below.refl _ _).alloc (Nat.le_refl _) _).trans (bJ.mono (by simp))
   have aP:=hid (aK.keep ad)
   have cS:=hid (aR.keep ad)
   have aC:=hid (aB.keep ad)
   have cc:=hid (bw.keep ad)
   have db:=hid (aJ.keep ad)
   have cU:=hid (b2.trans (Gr.quiet ad))
   obtain⟨bL,bu,rfl,-⟩:=u1700.lies
   clear u1700 hz hp hr bJ ad bp
   have c0:=aP.c
   have cB:=cS.bk.c5
   have bZ:=aC.bk.c2
   have cm:=aC.bk.f
   have cg:=cc.bk.c2
   go_wp2
   clear c0 cB bZ cm cg
   obtain⟨cw,cO⟩:=(aC.bk.put2 (.slice bL (makeT (nd0 6 0 ⟨#[]⟩) [C]).length bu) (.bool false)).c2
   exact bodyPost_ret (v:= .agg #[.slice bL (makeT (nd0 6 0 ⟨#[]⟩) [C]).length bu,.bool false]) (by simp[results,Tryz.results117,go_sem,cw,cO]) rfl (by rw[HPR.out];exact rq_end HLT.out (by first|exact aP.out|(simp only[at_over1,bd_over1,at_over2,bd_over2];exact aP.out)) cU.out aC.out bV.out (by exact Nat.le_succ _) (by exact Nat.lt_succ_of_lt aB.bk.lt) (gt_over1 (Nat.lt_succ_self j) bj.out ORY.out))
end
section
variable {w0:World} {l:List Tk} {a:Option Addr} {cap:Nat} {N0:List Tk} {s j:Nat} {v:Value} {E:Ps->Nat->R} {M:Nat}
def condR(E:Ps->Nat->R)(l:List Tk)(i g:Bool):R->R
 | .bad m=> .bad m
 | .ok lv tg t m=>if kd l m=65 then cond E l (cp 2 i g) t m else .ok lv tg t m
theorem cond_bad1{i g:Bool}{t:List Nd}{m m1:Nat}(h:E (cp 2 i g) (m+1)= .bad m1):cond E l (cp 2 i g) t m= .bad m1:=by
 unfold pe.cond
 rw[kq_cond (by decide) (.inl rfl),h]
theorem cond_bad2{i g:Bool}{t u:List Nd}{m m1:Nat}{lv:Int}{tg:Bool}(h:E (cp 2 i g) (m+1)= .ok lv tg u m1)(h2:¬kd l m1=66):cond E l (cp 2 i g) t m= .bad m1:=by
 unfold pe.cond
 rw[kq_cond (by decide) (.inl rfl),h]
 exact if_neg h2
def over3(k op:Int)(t u:List Nd):R->R
 | .bad m=> .bad m
 | .ok _ _ x m=>fin k op ⟨#[]⟩ [t,u,x] m
theorem at_over3(k op:Int)(t u:List Nd)(r:R):atQ (over3 k op t u r)=atQ r:=by cases r<;>rfl
theorem bd_over3(k op:Int)(t u:List Nd)(r:R):bdQ (over3 k op t u r)=bdQ r:=by cases r<;>rfl
theorem cond_over{i g:Bool}{t u:List Nd}{m m1:Nat}{lv:Int}{tg:Bool}(h:E (cp 2 i g) (m+1)= .ok lv tg u m1)(h2:kd l m1=66):cond E l (cp 2 i g) t m=over3 14 0 t u (E (cp 2 i g) (m1+1)):=by
 unfold pe.cond
 rw[kq_cond (by decide) (.inl rfl),h]
 simp only
 rw[if_pos h2,kq_cond (by decide) (.inr rfl)]
 cases E (cp 2 i g) (m1+1)<;>rfl
theorem gt_over3{i m m' m1 m1':Nat}{t1 t2 t3:List Nd}{h1 h2 h3:Bool}{k op:Int}{r:R}{lv lv2:Int}{tg tg2:Bool}{t t':List Nd}(hx:GtR i t1 h1 (.ok lv tg t m))(ox:Ok M l i (.ok lv tg t m))(hm:m<=m')(hy:GtR m' t2 h2 (.ok lv2 tg2 t' m1))(oy:Ok M l m' (.ok lv2 tg2 t' m1))(hm1:m1<=m1')(hz:GtR m1' t3 h3 r)(oz:Ok M l m1' r):GtR i (makeT (nd0 k op ⟨#[]⟩) [t1,t2,t3]) false (over3 k op t t' r):=by
 have hw:=gt_wk hz oz
 have o:=gt_wk1 hx ox
 have y:=gt_wk1 hy oy
 have hlt:=ox.1
 have A:=oy.1
 obtain⟨rfl,-⟩:=hx
 obtain⟨rfl,-⟩:=hy
 cases r with
 |bad j=>exact wk_mono (wk_three o y hw) (by have:=oz.1;show 2*(m-i)-1+(2*(m1-m')-1)+2*(j-m1')+1<=2*(j-i);omega)
 |ok lv' tg' u j=>
  obtain⟨rfl,-⟩:=hz
  exact⟨rfl,(put_make _ _ _ _).symm⟩
set_option maxHeartbeats 6400000 in
theorem cond_any(pl:Int)(pd pi pg psg:Bool)(w:World)(hst:Sq w0 l a cap N0 s j false v w)(hc:tk.Lies w0.heap.size w0 a l)(hl:l.length<=6000)(RX:R)(hX:∀(v:Value) (w:World),Sq w0 l a cap N0 s j false v w->Calls Tryz.prog 63 #[.pointer (some ⟨w0.heap.size,0,none⟩),.agg #[.int .i64 3,.bool false,.bool pi,.bool pg,.bool false]] w (Rq w0 l a cap N0 s j v w RX))(oX:Ok M l j RX)(hE:CallS w0 l a cap N0 s E (j+1))(oE:∀p i,i<=l.length->Ok M l i (E p i)):
  Calls Tryz.prog 111 #[.pointer (some ⟨w0.heap.size,0,none⟩),.agg #[.int .i64 pl,.bool pd,.bool pi,.bool pg,.bool psg]] w (Rq w0 l a cap N0 s j v w (condR E l pi pg RX)):=by
 have HC:=hid hc
 have HL:=hid (show l.length<=100000 by omega)
 have bh:=hid hl
 have HX:=hid hX
 have OX:=hid oX
 have HE:=hid hE
 have OE:=hid oE
 have HAT:=hid (ok_at oX)
 obtain⟨W,hW⟩:∃W,W=(w.alloc (.cells #[.int .i64 pl,.bool pd,.bool pi,.bool pg,.bool psg] 44)).alloc (.cells #[.slice none 0 0,.bool false] 95):=⟨_,rfl⟩
 have hB:Below w.heap.size w W:=by rw[hW];exact((Below.refl _ _).alloc (Nat.le_refl _) _).alloc (by simp) _
 have P0:=hid (show Mq w0.heap.size w.heap.size #[.int .i64 pl,.bool pd,.bool pi,.bool pg,.bool psg] 44 v W from Mq.of hst (by rw[hW];exact(Bk.new _ _ _).alloc _) (Nat.le_refl _))
 have R0:=hid (show Mq w0.heap.size (w.heap.size+1) #[.slice none 0 0,.bool false] 95 v W from Mq.of hst (by rw[hW];have:=Bk.new (w.alloc (.cells #[.int .i64 pl,.bool pd,.bool pi,.bool pg,.bool psg] 44)) #[.slice none 0 0,.bool false] 95;simpa using this) (Nat.le_succ _))
 have S0:=hid (hst.keep hB)
 have G0:=hid (show Gr (X0 w0.heap.size) v v w W from Gr.quiet hB)
 have HLT:=hid hst.lt
 have HBS:=hid hB.size
 have HJN:=hid hst.jn
 have HWS:=hid (show W.heap.size=w.heap.size+2 by rw[hW];simp)
 clear hB hst
 clear hX oX hE oE hc hl
 obtain⟨c1,c2,c3,c4⟩:=S0.c
 have m5:=P0.bk.c5
 have dd:=R0.bk.c2
 have cE:=R0.bk.f
 rw[hW]at c1 c2 c3 c4 m5 dd cE
 go_enter Tryz.func111,Tryz.ntmps111
 go_wp2_with fail
 rw[<-hW]
 clear c1 c2 c3 c4 m5 dd cE hW
 refine(part_any _ _ _ _ _ _ _).mono ?_
 rintro e d3 ⟨rfl,bD⟩
 have cW:=hid (S0.keep bD)
 have cD:=hid (P0.keep bD)
 have ci:=hid (R0.keep bD)
 have dw:=hid (G0.trans (Gr.quiet bD))
 clear bD
 have dF:=cW.c
 have dC:=cD.bk.c5
 have ds:=ci.bk.c2
 go_wp2_with fail
 clear dF dC ds
 refine(HX.out v d3 cW.out).mono ?_
 rintro e ae ⟨T,J,bn,br,rfl,s9,cj,t9,cC⟩
 have cB:=hid s9
 have db:=hid (cD.go cj)
 have df:=hid (ci.go cj)
 have dx:=hid (dw.trans cj)
 have d2:=hid t9
 have ch:=hid cC
 obtain⟨ab,aa,rfl,dr⟩:=t9.lies
 clear s9 t9 cj cC dr
 have dL:=hid (show w.heap.size<ae.heap.size from db.bk.lt)
 have dI:=hid (show(w.heap.size+1)<ae.heap.size from df.bk.lt)
 obtain⟨bA,ac⟩:∃W,W=ae.alloc (.cells #[.slice ab J.length aa,.bool bn] 95):=⟨_,rfl⟩
 have bo:Below ae.heap.size ae bA:=by rw[ac];exact(Below.refl _ _).alloc (Nat.le_refl _) _
 have b4:=hid (show Mq w0.heap.size ae.heap.size #[.slice ab J.length aa,.bool bn] 95 br bA from Mq.of cB.out (by rw[ac];exact Bk.new _ _ _) (Nat.le_refl _))
 have dN:=hid (show bA.heap.size=ae.heap.size+1 by rw[ac];simp)
 have cJ:=hid (cB.keep bo)
 have bw:=hid (db.keep bo)
 have ai:=hid (df.keep bo)
 have cl:=hid (d2.out.keep bo)
 have co:=hid (dx.trans (Gr.quiet bo))
 clear bo
 cases RX with
 |bad m=>
  have Sb:=hid (show Sq w0 l a cap N0 s m true br bA from cJ.out)
  have ar:=Sb.c
  have aO:=bw.bk.c5
  have aD:=ai.bk.c2
  have aH:=ai.bk.f
  have am:=b4.bk.c2
  rw[ac]at ar aO aD aH am
  go_wp2
  rw[<-ac]
  clear ar aO aD aH am ac
  obtain⟨d4,dt⟩:=(ai.bk.put2 (.slice ab J.length aa) (.bool bn)).c2
  exact bodyPost_ret (v:= .agg #[.slice ab J.length aa,.bool bn]) (by simp[results,Tryz.results111,go_sem,d4,dt]) rfl (rq_end HLT.out Sb.out co.out ai.out cl.out (by exact Nat.le_succ _) (by exact ci.bk.lt) (ch.out))
 |ok lv tg tx m=>
  have Sb:=hid (show Sq w0 l a cap N0 s m false br bA from cJ.out)
  by_cases h60:kd l m=65
  case neg=>
   have HK:=hid (kind_any _ Sb.out HC.out HL.out)
   have HPR:=hid (show condR E l pi pg (.ok lv tg tx m)= .ok lv tg tx m from if_neg h60)
   obtain⟨c,hcc⟩:∃c,kd l m=c:=⟨_,rfl⟩
   rw[hcc]at HK h60
   obtain⟨q1,q2⟩:=ne_facts h60
   clear h60 hcc
   have ar:=Sb.c
   have aO:=bw.bk.c5
   have aD:=ai.bk.c2
   have aH:=ai.bk.f
   have am:=b4.bk.c2
   rw[ac]at ar aO aD aH am
   go_wp2_with fail
   rw[<-ac]
   clear ar aO aD aH am ac
   refine(HK.out).mono ?_
   rintro e dA ⟨rfl,O⟩
   have b9:=hid (Sb.keep O)
   have cg:=hid (bw.keep O)
   have aR:=hid (ai.keep O)
   have ck:=hid (b4.keep O)
   have cx:=hid (cl.keep O)
   have cr:=hid (co.trans (Gr.quiet O))
   clear O
   have cw:=b9.c
   have cq:=cg.bk.c5
   have c8:=aR.bk.c2
   have cy:=aR.bk.f
   have c6:=ck.bk.c2
   go_wp2
   clear cw cq c8 cy c6
   obtain⟨dE,d1⟩:=(aR.bk.put2 (.slice ab J.length aa) (.bool bn)).c2
   exact bodyPost_ret (v:= .agg #[.slice ab J.length aa,.bool bn]) (by simp[results,Tryz.results111,go_sem,dE,d1]) rfl (by rw[HPR.out];exact rq_end HLT.out (b9.out) cr.out aR.out cx.out (by exact Nat.le_succ _) (by exact ci.bk.lt) (ch.out))
  case pos=>
   have HK:=hid (kind_any _ Sb.out HC.out HL.out)
   rw[h60]at HK
   have HPR:=hid (show condR E l pi pg (.ok lv tg tx m)=cond E l (cp 2 pi pg) tx m from if_pos h60)
   have du:=hid h60
   have HM:=hid (kd_lt (l:=l) (i:=m) (by omega))
   have HJM:=hid (show j<m from OX.out.1)
   clear h60
   have ar:=Sb.c
   have aO:=bw.bk.c5
   have aD:=ai.bk.c2
   have aH:=ai.bk.f
   have am:=b4.bk.c2
   rw[ac]at ar aO aD aH am
   go_wp2_with fail
   rw[<-ac]
   clear ar aO aD aH am ac
   refine(HK.out).mono ?_
   rintro e dA ⟨rfl,O⟩
   have b9:=hid (Sb.keep O)
   have cg:=hid (bw.keep O)
   have aR:=hid (ai.keep O)
   have ck:=hid (b4.keep O)
   have cx:=hid (cl.keep O)
   have cr:=hid (co.trans (Gr.quiet O))
   clear O
   have cw:=b9.c
   have cq:=cg.bk.c5
   have c8:=aR.bk.c2
   have cy:=aR.bk.f
   have c6:=ck.bk.c2
   go_wp2_with fail
   clear cw cq c8 cy c6
   refine(take_yes 65 _ b9.out HC.out HL.out (by decide) (by decide) du.out).mono ?_
   rintro e dM ⟨rfl,cX,bq⟩
   have da:=hid cX
   have dc:=hid (cg.go bq)
   have cz:=hid (aR.go bq)
   have cG:=hid (ck.go bq)
   have d8:=hid (cx.go bq)
   have dy:=hid (cr.trans bq)
   clear cX bq
   have dz:=da.c
   have dq:=dc.bk.c5
   have dj:=cz.bk.c2
   have dn:=cz.bk.f
   have d5:=cG.bk.c2
   go_wp2_with fail
   clear dz dq dj dn d5
   refine(part_any _ _ _ _ _ _ _).mono ?_
   rintro e de ⟨rfl,bi⟩
   have dg:=hid (da.keep bi)
   have cT:=hid (dc.keep bi)
   have cn:=hid (cz.keep bi)
   have cM:=hid (cG.keep bi)
   have d7:=hid (d8.keep bi)
   have dv:=hid (dy.trans (Gr.quiet bi))
   clear bi
   have dl:=dg.c
   have dD:=cT.bk.c5
   have dm:=cn.bk.c2
   have dk:=cn.bk.f
   have d6:=cM.bk.c2
   go_wp2_with fail
   clear dl dD dm dk d6
   obtain⟨RY,hRY⟩:∃R,E (cp 2 pi pg) (m+1)=R:=⟨_,rfl⟩
   have HRY:=hid hRY
   have ORY:=hid (show Ok M l (m+1) RY by rw[<-hRY];exact OE.out _ _ HM.out)
   clear hRY
   refine(show Calls _ _ _ _ (Rq w0 l a cap N0 s (m+1) br de RY) by rw[<-HRY.out];exact HE.out 2 pi pg false (m+1) br de (by decide) (by decide) (by have:=HJM.out;omega) dg.out).mono ?_
   rintro e ad ⟨T,N,cH,ak,rfl,s9,bm,t9,cO⟩
   have cI:=hid s9
   have cR:=hid (cT.go bm)
   have cL:=hid (cn.go bm)
   have cF:=hid (cM.go bm)
   have dp:=hid (d7.go bm)
   have d0:=hid (dv.trans bm)
   have di:=hid t9
   have cY:=hid cO
   obtain⟨ay,aF,rfl,d9⟩:=t9.lies
   clear s9 t9 bm cO d9
   have dJ:=hid (show w.heap.size<ad.heap.size from cR.bk.lt)
   have dK:=hid (show(w.heap.size+1)<ad.heap.size from cL.bk.lt)
   have dG:=hid (show ae.heap.size<ad.heap.size from cF.bk.lt)
   obtain⟨bR,Z⟩:∃W,W=ad.alloc (.cells #[.slice ay N.length aF,.bool cH] 95):=⟨_,rfl⟩
   have aI:Below ad.heap.size ad bR:=by rw[Z];exact(Below.refl _ _).alloc (Nat.le_refl _) _
   have bp:=hid (show Mq w0.heap.size ad.heap.size #[.slice ay N.length aF,.bool cH] 95 ak bR from Mq.of cI.out (by rw[Z];exact Bk.new _ _ _) (Nat.le_refl _))
   have dH:=hid (show bR.heap.size=ad.heap.size+1 by rw[Z];simp)
   have dh:=hid (cI.keep aI)
   have bl:=hid (cR.keep aI)
   have aj:=hid (cL.keep aI)
   have bj:=hid (cF.keep aI)
   have c7:=hid (dp.keep aI)
   have ct:=hid (di.out.keep aI)
   have c0:=hid (d0.trans (Gr.quiet aI))
   clear aI
   have HWX:=hid (gt_wk1 ch.out OX.out)
   have HWY:=hid (gt_wk cY.out ORY.out)
   have HOY:=hid (ok_at ORY.out)
   cases RY with
   |bad m1=>
    have Sz:=hid (show Sq w0 l a cap N0 s m1 true ak bR from dh.out)
    have HPR:=hid (HPR.trans (cond_bad1 HRY.out))
    have aG:=Sz.c
    have aL:=bl.bk.c5
    have aT:=aj.bk.c2
    have ap:=aj.bk.f
    have ba:=bj.bk.c2
    have aQ:=bp.bk.c2
    rw[Z]at aG aL aT ap ba aQ
    go_wp2_with fail
    rw[<-Z]
    clear aG aL aT ap ba aQ Z
    refine(take_no 66 _ Sz.out HC.out HL.out (by decide) (by decide) (.inl rfl)).mono ?_
    rintro e cS ⟨rfl,aE,F⟩
    have a1:=hid aE
    have a5:=hid (bl.go F)
    have ag:=hid (aj.go F)
    have aU:=hid (bj.go F)
    have be:=hid (bp.go F)
    have bN:=hid (c7.go F)
    have b7:=hid (ct.go F)
    have ca:=hid (c0.trans F)
    clear aE F
    have bS:=a1.c
    have bz:=a5.bk.c5
    have b3:=ag.bk.c2
    have b0:=ag.bk.f
    have cb:=aU.bk.c2
    have bL:=be.bk.c2
    go_wp2_with fail
    clear bS bz b3 b0 cb bL
    refine(part_any _ _ _ _ _ _ _).mono ?_
    rintro e bf ⟨rfl,A⟩
    have aw:=hid (a1.keep A)
    have an:=hid (a5.keep A)
    have ah:=hid (ag.keep A)
    have a9:=hid (aU.keep A)
    have aZ:=hid (be.keep A)
    have b1:=hid (bN.keep A)
    have bK:=hid (b7.keep A)
    have bE:=hid (ca.trans (Gr.quiet A))
    clear A
    have b8:=aw.c
    have cf:=an.bk.c5
    have bQ:=ah.bk.c2
    have bC:=ah.bk.f
    have bT:=a9.bk.c2
    have bt:=aZ.bk.c2
    go_wp2_with fail
    clear b8 cf bQ bC bT bt
    refine(show Calls _ _ _ _ (Rq w0 l a cap N0 s m1 ak bf (.bad m1))from HE.out 2 pi pg true m1 ak bf (by decide) (by decide) (by have:=HJM.out;have:=HOY.out;simp only[atQ]at this;omega) aw.out).mono ?_
    rintro e C ⟨T,D,a0,bF,rfl,s9,G,t9,aB⟩
    have az:=hid s9
    have a6:=hid (an.go G)
    have aq:=hid (ah.go G)
    have bb:=hid (a9.go G)
    have aN:=hid (aZ.go G)
    have b2:=hid (b1.go G)
    have bs:=hid (bK.go G)
    have bM:=hid (bE.trans G)
    have bV:=hid t9
    have aX:=hid aB
    obtain⟨Q,U,rfl,bP⟩:=t9.lies
    clear s9 t9 G aB bP
    have cZ:=hid (show w.heap.size<C.heap.size from a6.bk.lt)
    have cK:=hid (show(w.heap.size+1)<C.heap.size from aq.bk.lt)
    have cQ:=hid (show ae.heap.size<C.heap.size from bb.bk.lt)
    have cV:=hid (show ad.heap.size<C.heap.size from aN.bk.lt)
    obtain⟨H,K⟩:∃W,W=C.alloc (.cells #[.slice Q D.length U,.bool a0] 95):=⟨_,rfl⟩
    have y:Below C.heap.size C H:=by rw[K];exact(Below.refl _ _).alloc (Nat.le_refl _) _
    have a4:=hid (show Mq w0.heap.size C.heap.size #[.slice Q D.length U,.bool a0] 95 bF H from Mq.of az.out (by rw[K];exact Bk.new _ _ _) (Nat.le_refl _))
    have bv:=hid (show H.heap.size=C.heap.size+1 by rw[K];simp)
    have af:=hid (az.keep y)
    have aA:=hid (a6.keep y)
    have V:=hid (aq.keep y)
    have aP:=hid (bb.keep y)
    have a2:=hid (aN.keep y)
    have aK:=hid (b2.keep y)
    have al:=hid (bs.keep y)
    have aY:=hid (bV.out.keep y)
    have bx:=hid (bM.trans (Gr.quiet y))
    clear y
    have ao:=af.c
    have a3:=aA.bk.c5
    have ax:=V.bk.c2
    have a7:=V.bk.f
    have bg:=aP.bk.c2
    have aW:=a2.bk.c2
    have aM:=a4.bk.c2
    rw[K]at ao a3 ax a7 bg aW aM
    go_wp2_with fail
    rw[<-K]
    clear ao a3 ax a7 bg aW aM K
    have a8:=aK.lies'
    have au:=al.lies'
    have aJ:=aY.lies'
    refine(over3_any bv.out 14 0 ⟨#[]⟩ J N D a8 au aJ (wk_mono HWX.out (by have:=bh.out;have:=HM.out;omega)) (wk_mono HWY.out (by have:=bh.out;have:=HOY.out;omega)) (wk_mono (show Wk (2*(m1-m1)) D from aX.out) (by omega))).mono ?_
    rintro e bU ⟨T,z,r,rfl,hz,hp,aC,hr⟩
    have u3050:=Tq.of (af.alloc (.cells #[.slice ab J.length aa,.slice ay N.length aF,.slice Q D.length U] 26)) hp hr
    rw[hz]at u3050
    have ce:=hid (show(H.alloc (.cells #[.slice ab J.length aa,.slice ay N.length aF,.slice Q D.length U] 26)).heap.size=H.heap.size+1 by simp)
    rw[ce.out]at u3050
    have bY:=hid u3050
    have o:Below H.heap.size H bU:=((Below.refl _ _).alloc (Nat.le_refl _) _).trans (aC.mono (by simp))
    have aS:=hid (af.keep o)
    have bJ:=hid (aA.keep o)
    have P:=hid (V.keep o)
    have bG:=hid (aP.keep o)
    have bZ:=hid (a2.keep o)
    have bH:=hid (a4.keep o)
    have c9:=hid (aK.keep o)
    have cU:=hid (al.keep o)
    have cA:=hid (aY.keep o)
    have bO:=hid (bx.trans (Gr.quiet o))
    obtain⟨aV,bc,rfl,-⟩:=u3050.lies
    clear u3050 hz hp hr aC o a8 au aJ
    have bI:=aS.c
    have bB:=bJ.bk.c5
    have cd:=P.bk.c2
    have bX:=P.bk.f
    have cc:=bG.bk.c2
    have bW:=bZ.bk.c2
    have b5:=bH.bk.c2
    go_wp2
    clear bI bB cd bX cc bW b5
    obtain⟨bu,b6⟩:=(P.bk.put2 (.slice aV (makeT (nd0 14 0 ⟨#[]⟩) [J,N,D]).length bc) (.bool false)).c2
    exact bodyPost_ret (v:= .agg #[.slice aV (makeT (nd0 14 0 ⟨#[]⟩) [J,N,D]).length bc,.bool false]) (by simp[results,Tryz.results111,go_sem,bu,b6]) rfl (by rw[HPR.out];exact rq_end HLT.out (show Sq w0 l a cap N0 s m1 true _ _ from aS.out) bO.out P.out bY.out (by exact Nat.le_succ _) (by exact Nat.lt_succ_of_lt V.bk.lt) (wk_mono (wk_three HWX.out HWY.out (show Wk (2*(m1-m1)) D from aX.out)) (by have:=HJM.out;have:=HOY.out;simp only[atQ]at*;omega)))
   |ok lvy tgy ty m1=>
    have Sz:=hid (show Sq w0 l a cap N0 s m1 false ak bR from dh.out)
    by_cases h66:kd l m1=66
    case pos=>
     have HPR:=hid (HPR.trans (cond_over HRY.out h66))
     have cm:=hid h66
     have dB:=hid (kd_lt (l:=l) (i:=m1) (by omega))
     clear h66
     obtain⟨RZ,hRZ⟩:∃R,E (cp 2 pi pg) (m1+1)=R:=⟨_,rfl⟩
     have HRZ:=hid hRZ
     have ORZ:=hid (show Ok M l (m1+1) RZ by rw[<-hRZ];exact OE.out _ _ dB.out)
     clear hRZ
     rw[HRZ.out]at HPR
     have aG:=Sz.c
     have aL:=bl.bk.c5
     have aT:=aj.bk.c2
     have ap:=aj.bk.f
     have ba:=bj.bk.c2
     have aQ:=bp.bk.c2
     rw[Z]at aG aL aT ap ba aQ
     go_wp2_with fail
     rw[<-Z]
     clear aG aL aT ap ba aQ Z
     refine(take_yes 66 _ Sz.out HC.out HL.out (by decide) (by decide) cm.out).mono ?_
     rintro e cS ⟨rfl,aE,F⟩
     have a1:=hid aE
     have a5:=hid (bl.go F)
     have ag:=hid (aj.go F)
     have aU:=hid (bj.go F)
     have be:=hid (bp.go F)
     have bN:=hid (c7.go F)
     have b7:=hid (ct.go F)
     have ca:=hid (c0.trans F)
     clear aE F
     have bS:=a1.c
     have bz:=a5.bk.c5
     have b3:=ag.bk.c2
     have b0:=ag.bk.f
     have cb:=aU.bk.c2
     have bL:=be.bk.c2
     go_wp2_with fail
     clear bS bz b3 b0 cb bL
     refine(part_any _ _ _ _ _ _ _).mono ?_
     rintro e bf ⟨rfl,A⟩
     have aw:=hid (a1.keep A)
     have an:=hid (a5.keep A)
     have ah:=hid (ag.keep A)
     have a9:=hid (aU.keep A)
     have aZ:=hid (be.keep A)
     have b1:=hid (bN.keep A)
     have bK:=hid (b7.keep A)
     have bE:=hid (ca.trans (Gr.quiet A))
     clear A
     have b8:=aw.c
     have cf:=an.bk.c5
     have bQ:=ah.bk.c2
     have bC:=ah.bk.f
     have bT:=a9.bk.c2
     have bt:=aZ.bk.c2
     go_wp2_with fail
     clear b8 cf bQ bC bT bt
     refine(show Calls _ _ _ _ (Rq w0 l a cap N0 s (m1+1) ak bf RZ) by rw[<-HRZ.out];exact HE.out 2 pi pg false (m1+1) ak bf (by decide) (by decide) (by have:=HJM.out;have:=HOY.out;simp only[atQ]at this;omega) aw.out).mono ?_
     rintro e C ⟨T,D,a0,bF,rfl,s9,G,t9,aB⟩
     have az:=hid s9
     have a6:=hid (an.go G)
     have aq:=hid (ah.go G)
     have bb:=hid (a9.go G)
     have aN:=hid (aZ.go G)
     have b2:=hid (b1.go G)
     have bs:=hid (bK.go G)
     have bM:=hid (bE.trans G)
     have bV:=hid t9
     have aX:=hid aB
     obtain⟨Q,U,rfl,bP⟩:=t9.lies
     clear s9 t9 G aB bP
     have cZ:=hid (show w.heap.size<C.heap.size from a6.bk.lt)
     have cK:=hid (show(w.heap.size+1)<C.heap.size from aq.bk.lt)
     have cQ:=hid (show ae.heap.size<C.heap.size from bb.bk.lt)
     have cV:=hid (show ad.heap.size<C.heap.size from aN.bk.lt)
     obtain⟨H,K⟩:∃W,W=C.alloc (.cells #[.slice Q D.length U,.bool a0] 95):=⟨_,rfl⟩
     have y:Below C.heap.size C H:=by rw[K];exact(Below.refl _ _).alloc (Nat.le_refl _) _
     have a4:=hid (show Mq w0.heap.size C.heap.size #[.slice Q D.length U,.bool a0] 95 bF H from Mq.of az.out (by rw[K];exact Bk.new _ _ _) (Nat.le_refl _))
     have bv:=hid (show H.heap.size=C.heap.size+1 by rw[K];simp)
     have af:=hid (az.keep y)
     have aA:=hid (a6.keep y)
     have V:=hid (aq.keep y)
     have aP:=hid (bb.keep y)
     have a2:=hid (aN.keep y)
     have aK:=hid (b2.keep y)
     have al:=hid (bs.keep y)
     have aY:=hid (bV.out.keep y)
     have bx:=hid (bM.trans (Gr.quiet y))
     clear y
     have ao:=af.c
     have a3:=aA.bk.c5
     have ax:=V.bk.c2
     have a7:=V.bk.f
     have bg:=aP.bk.c2
     have aW:=a2.bk.c2
     have aM:=a4.bk.c2
     rw[K]at ao a3 ax a7 bg aW aM
     go_wp2_with fail
     rw[<-K]
     clear ao a3 ax a7 bg aW aM K
     have a8:=aK.lies'
     have au:=al.lies'
     have aJ:=aY.lies'
     refine(over3_any bv.out 14 0 ⟨#[]⟩ J N D a8 au aJ (wk_mono HWX.out (by have:=bh.out;have:=HM.out;omega)) (wk_mono HWY.out (by have:=bh.out;have:=HOY.out;omega)) (wk_mono (gt_wk aX.out ORZ.out) (by have:=bh.out;have:=(ok_at ORZ.out).2;omega))).mono ?_
     rintro e bU ⟨T,z,r,rfl,hz,hp,aC,hr⟩
     have u3050:=Tq.of (af.alloc (.cells #[.slice ab J.length aa,.slice ay N.length aF,.slice Q D.length U] 26)) hp hr
     rw[hz]at u3050
     have ce:=hid (show(H.alloc (.cells #[.slice ab J.length aa,.slice ay N.length aF,.slice Q D.length U] 26)).heap.size=H.heap.size+1 by simp)
     rw[ce.out]at u3050
     have bY:=hid u3050
     have o:Below H.heap.size H bU:=((Below.refl _ _).alloc (Nat.le_refl _) _).trans (aC.mono (by simp))
     have aS:=hid (af.keep o)
     have bJ:=hid (aA.keep o)
     have P:=hid (V.keep o)
     have bG:=hid (aP.keep o)
     have bZ:=hid (a2.keep o)
     have bH:=hid (a4.keep o)
     have c9:=hid (aK.keep o)
     have cU:=hid (al.keep o)
     have cA:=hid (aY.keep o)
     have bO:=hid (bx.trans (Gr.quiet o))
     obtain⟨aV,bc,rfl,-⟩:=u3050.lies
     clear u3050 hz hp hr aC o a8 au aJ
     have bI:=aS.c
     have bB:=bJ.bk.c5
     have cd:=P.bk.c2
     have bX:=P.bk.f
     have cc:=bG.bk.c2
     have bW:=bZ.bk.c2
     have b5:=bH.bk.c2
     go_wp2
     clear bI bB cd bX cc bW b5
     obtain⟨bu,b6⟩:=(P.bk.put2 (.slice aV (makeT (nd0 14 0 ⟨#[]⟩) [J,N,D]).length bc) (.bool false)).c2
     exact bodyPost_ret (v:= .agg #[.slice aV (makeT (nd0 14 0 ⟨#[]⟩) [J,N,D]).length bc,.bool false]) (by simp[results,Tryz.results111,go_sem,bu,b6]) rfl (by rw[HPR.out];exact rq_end HLT.out (by simp only[at_over3,bd_over3];exact aS.out) bO.out P.out bY.out (by exact Nat.le_succ _) (by exact Nat.lt_succ_of_lt V.bk.lt) (gt_over3 ch.out OX.out (Nat.le_succ m) cY.out ORY.out (Nat.le_succ m1) aX.out ORZ.out))
    case neg=>
     have HPR:=hid (HPR.trans (cond_bad2 HRY.out h66))
     have cm:=hid h66
     clear h66
     have aG:=Sz.c
     have aL:=bl.bk.c5
     have aT:=aj.bk.c2
     have ap:=aj.bk.f
     have ba:=bj.bk.c2
     have aQ:=bp.bk.c2
     rw[Z]at aG aL aT ap ba aQ
     go_wp2_with fail
     rw[<-Z]
     clear aG aL aT ap ba aQ Z
     refine(take_no 66 _ Sz.out HC.out HL.out (by decide) (by decide) (.inr cm.out)).mono ?_
     rintro e cS ⟨rfl,aE,F⟩
     have a1:=hid aE
     have a5:=hid (bl.go F)
     have ag:=hid (aj.go F)
     have aU:=hid (bj.go F)
     have be:=hid (bp.go F)
     have bN:=hid (c7.go F)
     have b7:=hid (ct.go F)
     have ca:=hid (c0.trans F)
     clear aE F
     have bS:=a1.c
     have bz:=a5.bk.c5
     have b3:=ag.bk.c2
     have b0:=ag.bk.f
     have cb:=aU.bk.c2
     have bL:=be.bk.c2
     go_wp2_with fail
     clear bS bz b3 b0 cb bL
     refine(part_any _ _ _ _ _ _ _).mono ?_
     rintro e bf ⟨rfl,A⟩
     have aw:=hid (a1.keep A)
     have an:=hid (a5.keep A)
     have ah:=hid (ag.keep A)
     have a9:=hid (aU.keep A)
     have aZ:=hid (be.keep A)
     have b1:=hid (bN.keep A)
     have bK:=hid (b7.keep A)
     have bE:=hid (ca.trans (Gr.quiet A))
     clear A
     have b8:=aw.c
     have cf:=an.bk.c5
     have bQ:=ah.bk.c2
     have bC:=ah.bk.f
     have bT:=a9.bk.c2
     have bt:=aZ.bk.c2
     go_wp2_with fail
     clear b8 cf bQ bC bT bt
     refine(show Calls _ _ _ _ (Rq w0 l a cap N0 s m1 ak bf (.bad m1))from HE.out 2 pi pg true m1 ak bf (by decide) (by decide) (by have:=HJM.out;have:=HOY.out;simp only[atQ]at this;omega) aw.out).mono ?_
     rintro e C ⟨T,D,a0,bF,rfl,s9,G,t9,aB⟩
     have az:=hid s9
     have a6:=hid (an.go G)
     have aq:=hid (ah.go G)
     have bb:=hid (a9.go G)
     have aN:=hid (aZ.go G)
     have b2:=hid (b1.go G)
     have bs:=hid (bK.go G)
     have bM:=hid (bE.trans G)
     have bV:=hid t9
     have aX:=hid aB
     obtain⟨Q,U,rfl,bP⟩:=t9.lies
     clear s9 t9 G aB bP
     have cZ:=hid (show w.heap.size<C.heap.size from a6.bk.lt)
     have cK:=hid (show(w.heap.size+1)<C.heap.size from aq.bk.lt)
     have cQ:=hid (show ae.heap.size<C.heap.size from bb.bk.lt)
     have cV:=hid (show ad.heap.size<C.heap.size from aN.bk.lt)
     obtain⟨H,K⟩:∃W,W=C.alloc (.cells #[.slice Q D.length U,.bool a0] 95):=⟨_,rfl⟩
     have y:Below C.heap.size C H:=by rw[K];exact(Below.refl _ _).alloc (Nat.le_refl _) _
     have a4:=hid (show Mq w0.heap.size C.heap.size #[.slice Q D.length U,.bool a0] 95 bF H from Mq.of az.out (by rw[K];exact Bk.new _ _ _) (Nat.le_refl _))
     have bv:=hid (show H.heap.size=C.heap.size+1 by rw[K];simp)
     have af:=hid (az.keep y)
     have aA:=hid (a6.keep y)
     have V:=hid (aq.keep y)
     have aP:=hid (bb.keep y)
     have a2:=hid (aN.keep y)
     have aK:=hid (b2.keep y)
     have al:=hid (bs.keep y)
     have aY:=hid (bV.out.keep y)
     have bx:=hid (bM.trans (Gr.quiet y))
     clear y
     have ao:=af.c
     have a3:=aA.bk.c5
     have ax:=V.bk.c2
     have a7:=V.bk.f
     have bg:=aP.bk.c2
     have aW:=a2.bk.c2
     have aM:=a4.bk.c2
     rw[K]at ao a3 ax a7 bg aW aM
     go_wp2_with fail
     rw[<-K]
     clear ao a3 ax a7 bg aW aM K
     have a8:=aK.lies'
     have au:=al.lies'
     have aJ:=aY.lies'
     refine(over3_any bv.out 14 0 ⟨#[]⟩ J N D a8 au aJ (wk_mono HWX.out (by have:=bh.out;have:=HM.out;omega)) (wk_mono HWY.out (by have:=bh.out;have:=HOY.out;omega)) (wk_mono (show Wk (2*(m1-m1)) D from aX.out) (by omega))).mono ?_
     rintro e bU ⟨T,z,r,rfl,hz,hp,aC,hr⟩
     have u3050:=Tq.of (af.alloc (.cells #[.slice ab J.length aa,.slice ay N.length aF,.slice Q D.length U] 26)) hp hr
     rw[hz]at u3050
     have ce:=hid (show(H.alloc (.cells #[.slice ab J.length aa,.slice ay N.length aF,.slice Q D.length U] 26)).heap.size=H.heap.size+1 by simp)
     rw[ce.out]at u3050
     have bY:=hid u3050
     have o:Below H.heap.size H bU:=((Below.refl _ _).alloc (Nat.le_refl _) _).trans (aC.mono (by simp))
     have aS:=hid (af.keep o)
     have bJ:=hid (aA.keep o)
     have P:=hid (V.keep o)
     have bG:=hid (aP.keep o)
     have bZ:=hid (a2.keep o)
     have bH:=hid (a4.keep o)
     have c9:=hid (aK.keep o)
     have cU:=hid (al.keep o)
     have cA:=hid (aY.keep o)
     have bO:=hid (bx.trans (Gr.quiet o))
     obtain⟨aV,bc,rfl,-⟩:=u3050.lies
     clear u3050 hz hp hr aC o a8 au aJ
     have bI:=aS.c
     have bB:=bJ.bk.c5
     have cd:=P.bk.c2
     have bX:=P.bk.f
     have cc:=bG.bk.c2
     have bW:=bZ.bk.c2
     have b5:=bH.bk.c2
     go_wp2
     clear bI bB cd bX cc bW b5
     obtain⟨bu,b6⟩:=(P.bk.put2 (.slice aV (makeT (nd0 14 0 ⟨#[]⟩) [J,N,D]).length bc) (.bool false)).c2
     exact bodyPost_ret (v:= .agg #[.slice aV (makeT (nd0 14 0 ⟨#[]⟩) [J,N,D]).length bc,.bool false]) (by simp[results,Tryz.results111,go_sem,bu,b6]) rfl (by rw[HPR.out];exact rq_end HLT.out (show Sq w0 l a cap N0 s m1 true _ _ from aS.out) bO.out P.out bY.out (by exact Nat.le_succ _) (by exact Nat.lt_succ_of_lt V.bk.lt) (wk_mono (wk_three HWX.out HWY.out (show Wk (2*(m1-m1)) D from aX.out)) (by have:=HJM.out;have:=HOY.out;simp only[atQ]at*;omega)))
def assignR(E:Ps->Nat->R)(l:List Tk)(i g:Bool):R->R
 | .bad m=> .bad m
 | .ok lv tg t m=>if(isAsg (kd l m)&&tg)=true then over2 15 (kd l m) t (E (cp 1 i g) (m+1))else .ok lv tg t m
theorem asg_any(c:Int)(w:World):Calls Tryz.prog 174 #[.int .i64 c] w fun e w'=>e= .returned (.bool (isAsg c))/\w=w':=rt.spec_asg c w
set_option maxHeartbeats 6400000 in
theorem assign_any(pl:Int)(pd pi pg psg:Bool)(w:World)(hst:Sq w0 l a cap N0 s j false v w)(hc:tk.Lies w0.heap.size w0 a l)(hl:l.length<=6000)(RX:R)(hX:∀(v:Value) (w:World),Sq w0 l a cap N0 s j false v w->Calls Tryz.prog 63 #[.pointer (some ⟨w0.heap.size,0,none⟩),.agg #[.int .i64 2,.bool false,.bool pi,.bool pg,.bool false]] w (Rq w0 l a cap N0 s j v w RX))(oX:Ok M l j RX)(hE:CallS w0 l a cap N0 s E (j+1))(oE:∀p i,i<=l.length->Ok M l i (E p i)):
  Calls Tryz.prog 110 #[.pointer (some ⟨w0.heap.size,0,none⟩),.agg #[.int .i64 pl,.bool pd,.bool pi,.bool pg,.bool psg]] w (Rq w0 l a cap N0 s j v w (assignR E l pi pg RX)):=by
 have HC:=hid hc
 have HL:=hid (show l.length<=100000 by omega)
 have aR:=hid hl
 have HX:=hid hX
 have OX:=hid oX
 have HE:=hid hE
 have OE:=hid oE
 have HAT:=hid (ok_at oX)
 obtain⟨W,hW⟩:∃W,W=(w.alloc (.cells #[.int .i64 pl,.bool pd,.bool pi,.bool pg,.bool psg] 44)).alloc (.cells #[.slice none 0 0,.bool false] 95):=⟨_,rfl⟩
 have hB:Below w.heap.size w W:=by rw[hW];exact((Below.refl _ _).alloc (Nat.le_refl _) _).alloc (by simp) _
 have P0:=hid (show Mq w0.heap.size w.heap.size #[.int .i64 pl,.bool pd,.bool pi,.bool pg,.bool psg] 44 v W from Mq.of hst (by rw[hW];exact(Bk.new _ _ _).alloc _) (Nat.le_refl _))
 have R0:=hid (show Mq w0.heap.size (w.heap.size+1) #[.slice none 0 0,.bool false] 95 v W from Mq.of hst (by rw[hW];have:=Bk.new (w.alloc (.cells #[.int .i64 pl,.bool pd,.bool pi,.bool pg,.bool psg] 44)) #[.slice none 0 0,.bool false] 95;simpa using this) (Nat.le_succ _))
 have S0:=hid (hst.keep hB)
 have G0:=hid (show Gr (X0 w0.heap.size) v v w W from Gr.quiet hB)
 have HLT:=hid hst.lt
 have HBS:=hid hB.size
 have HJN:=hid hst.jn
 have HWS:=hid (show W.heap.size=w.heap.size+2 by rw[hW];simp)
 clear hB hst
 clear hX oX hE oE hc hl
 obtain⟨c1,c2,c3,c4⟩:=S0.c
 have m5:=P0.bk.c5
 have bC:=R0.bk.c2
 have bg:=R0.bk.f
 rw[hW]at c1 c2 c3 c4 m5 bC bg
 go_enter Tryz.func110,Tryz.ntmps110
 go_wp2_with fail
 rw[<-hW]
 clear c1 c2 c3 c4 m5 bC bg hW
 refine(part_any _ _ _ _ _ _ _).mono ?_
 rintro e c9 ⟨rfl,a6⟩
 have b1:=hid (S0.keep a6)
 have bf:=hid (P0.keep a6)
 have a0:=hid (R0.keep a6)
 have cl:=hid (G0.trans (Gr.quiet a6))
 clear a6
 have cR:=b1.c
 have cQ:=bf.bk.c5
 have cg:=a0.bk.c2
 go_wp2_with fail
 clear cR cQ cg
 refine(HX.out v c9 b1.out).mono ?_
 rintro e ab ⟨T,y,G,aq,rfl,s9,aC,t9,be⟩
 have bb:=hid s9
 have bA:=hid (bf.go aC)
 have bD:=hid (a0.go aC)
 have cn:=hid (cl.trans aC)
 have c6:=hid t9
 have af:=hid be
 obtain⟨U,D,rfl,cf⟩:=t9.lies
 clear s9 t9 aC be cf
 have q35hW:=hid (show y.length<=20000 from Nat.le_trans (gt_wk af.out OX.out).1 (by have:=aR.out;have:=HAT.out;omega))
 have cX:=hid (show w.heap.size<ab.heap.size from bA.bk.lt)
 have cU:=hid (show(w.heap.size+1)<ab.heap.size from bD.bk.lt)
 obtain⟨a5,C⟩:∃W,W=ab.alloc (.cells #[.slice U y.length D,.bool G] 95):=⟨_,rfl⟩
 have ax:Below ab.heap.size ab a5:=by rw[C];exact(Below.refl _ _).alloc (Nat.le_refl _) _
 have ai:=hid (show Mq w0.heap.size ab.heap.size #[.slice U y.length D,.bool G] 95 aq a5 from Mq.of bb.out (by rw[C];exact Bk.new _ _ _) (Nat.le_refl _))
 have da:=hid (show a5.heap.size=ab.heap.size+1 by rw[C];simp)
 have bq:=hid (bb.keep ax)
 have ah:=hid (bA.keep ax)
 have F:=hid (bD.keep ax)
 have ag:=hid (c6.out.keep ax)
 have aB:=hid (cn.trans (Gr.quiet ax))
 clear ax
 cases RX with
 |bad m=>
  have Sb:=hid (show Sq w0 l a cap N0 s m true aq a5 from bq.out)
  have N:=Sb.c
  have Q:=ah.bk.c5
  have O:=F.bk.c2
  have P:=F.bk.f
  have K:=ai.bk.c2
  rw[C]at N Q O P K
  go_wp2
  rw[<-C]
  clear N Q O P K C
  obtain⟨cD,ch⟩:=(F.bk.put2 (.slice U y.length D) (.bool G)).c2
  exact bodyPost_ret (v:= .agg #[.slice U y.length D,.bool G]) (by simp[results,Tryz.results110,go_sem,cD,ch]) rfl (rq_end HLT.out Sb.out aB.out F.out ag.out (by exact Nat.le_succ _) (by exact a0.bk.lt) (af.out))
 |ok lv tg tx m=>
  have Sb:=hid (show Sq w0 l a cap N0 s m false aq a5 from bq.out)
  have HTG:=hid (show tg=put G y from af.out.2)
  have HJM:=hid (show j<m from OX.out.1)
  cases tg with
  |false=>
   have HPR:=hid (show assignR E l pi pg (.ok lv false tx m)= .ok lv false tx m from if_neg (by simp))
   have N:=Sb.c
   have Q:=ah.bk.c5
   have O:=F.bk.c2
   have P:=F.bk.f
   have K:=ai.bk.c2
   rw[C]at N Q O P K
   go_wp2_with fail
   rw[<-C]
   clear N Q O P K C
   have ad:=ag.lies'
   have HPT:=hid (put_any y _ D G _ ad (by have:=q35hW.out;omega))
   rw[<-HTG.out]at HPT
   clear ad
   refine(HPT.out).mono ?_
   rintro e bG ⟨rfl,o⟩
   have V:=hid (Sb.keep o)
   have ao:=hid (ah.keep o)
   have H:=hid (F.keep o)
   have am:=hid (ai.keep o)
   have a3:=hid (ag.keep o)
   have a8:=hid (aB.trans (Gr.quiet o))
   clear o
   have a7:=V.c
   have a1:=ao.bk.c5
   have a4:=H.bk.c2
   have a2:=H.bk.f
   have a9:=am.bk.c2
   go_wp2
   clear a7 a1 a4 a2 a9
   obtain⟨cx,cd⟩:=(H.bk.put2 (.slice U y.length D) (.bool G)).c2
   exact bodyPost_ret (v:= .agg #[.slice U y.length D,.bool G]) (by simp[results,Tryz.results110,go_sem,cx,cd]) rfl (by rw[HPR.out];exact rq_end HLT.out V.out a8.out H.out a3.out (by exact Nat.le_succ _) (by exact a0.bk.lt) (af.out))
  |true=>
   obtain⟨c2,al⟩:∃c2,kd l m=c2:=⟨_,rfl⟩
   have ck:=hid al
   have aE:=hid (fun W2 (h2:Sq w0 l a cap N0 s m false aq W2)=>kind_any W2 h2 HC.out HL.out)
   rw[al]at aE
   have HSG:=hid (fun W2=>asg_any c2 W2)
   by_cases hs:isAsg c2=true
   case neg=>
    have hs':isAsg c2=false:=by simpa using hs
    have HPR:=hid (show assignR E l pi pg (.ok lv true tx m)= .ok lv true tx m from if_neg (by rw[al,hs'];simp))
    rw[hs']at HSG
    clear hs hs' al
    have N:=Sb.c
    have Q:=ah.bk.c5
    have O:=F.bk.c2
    have P:=F.bk.f
    have K:=ai.bk.c2
    rw[C]at N Q O P K
    go_wp2_with fail
    rw[<-C]
    clear N Q O P K C
    have ad:=ag.lies'
    have HPT:=hid (put_any y _ D G _ ad (by have:=q35hW.out;omega))
    rw[<-HTG.out]at HPT
    clear ad
    refine(HPT.out).mono ?_
    rintro e bG ⟨rfl,o⟩
    have V:=hid (Sb.keep o)
    have ao:=hid (ah.keep o)
    have H:=hid (F.keep o)
    have am:=hid (ai.keep o)
    have a3:=hid (ag.keep o)
    have a8:=hid (aB.trans (Gr.quiet o))
    clear o
    have a7:=V.c
    have a1:=ao.bk.c5
    have a4:=H.bk.c2
    have a2:=H.bk.f
    have a9:=am.bk.c2
    go_wp2_with fail
    clear a7 a1 a4 a2 a9
    refine(aE.out _ V.out).mono ?_
    rintro e cz ⟨rfl,A⟩
    have aa:=hid (V.keep A)
    have ay:=hid (ao.keep A)
    have J:=hid (H.keep A)
    have ar:=hid (am.keep A)
    have aX:=hid (a3.keep A)
    have aO:=hid (a8.trans (Gr.quiet A))
    clear A
    have aP:=aa.c
    have aL:=ay.bk.c5
    have aI:=J.bk.c2
    have aK:=J.bk.f
    have aV:=ar.bk.c2
    go_wp2_with fail
    clear aP aL aI aK aV
    refine(HSG.out _).mono ?_
    rintro e ws ⟨rfl,rfl⟩
    have aS:=aa.c
    have aT:=ay.bk.c5
    have aH:=J.bk.c2
    have aU:=J.bk.f
    have aJ:=ar.bk.c2
    go_wp2
    clear aS aT aH aU aJ
    obtain⟨cK,cF⟩:=(J.bk.put2 (.slice U y.length D) (.bool G)).c2
    exact bodyPost_ret (v:= .agg #[.slice U y.length D,.bool G]) (by simp[results,Tryz.results110,go_sem,cK,cF]) rfl (by rw[HPR.out];exact rq_end HLT.out aa.out aO.out J.out aX.out (by exact Nat.le_succ _) (by exact a0.bk.lt) (af.out))
   case pos=>
    have HPR:=hid (show assignR E l pi pg (.ok lv true tx m)=over2 15 c2 tx (E (cp 1 pi pg) (m+1))from by rw[<-al];exact if_pos (by rw[al,hs];rfl))
    have HV:=hid (asg_vals hs)
    have HM:=hid (kd_lt (l:=l) (i:=m) (by have:=asg_vals hs;omega))
    rw[hs]at HSG
    clear hs al
    obtain⟨RY,hRY⟩:∃R,E (cp 1 pi pg) (m+1)=R:=⟨_,rfl⟩
    have HRY:=hid hRY
    have ORY:=hid (show Ok M l (m+1) RY by rw[<-hRY];exact OE.out _ _ HM.out)
    clear hRY
    rw[HRY.out]at HPR
    have N:=Sb.c
    have Q:=ah.bk.c5
    have O:=F.bk.c2
    have P:=F.bk.f
    have K:=ai.bk.c2
    rw[C]at N Q O P K
    go_wp2_with fail
    rw[<-C]
    clear N Q O P K C
    have ad:=ag.lies'
    have HPT:=hid (put_any y _ D G _ ad (by have:=q35hW.out;omega))
    rw[<-HTG.out]at HPT
    clear ad
    refine(HPT.out).mono ?_
    rintro e bG ⟨rfl,o⟩
    have V:=hid (Sb.keep o)
    have ao:=hid (ah.keep o)
    have H:=hid (F.keep o)
    have am:=hid (ai.keep o)
    have a3:=hid (ag.keep o)
    have a8:=hid (aB.trans (Gr.quiet o))
    clear o
    have a7:=V.c
    have a1:=ao.bk.c5
    have a4:=H.bk.c2
    have a2:=H.bk.f
    have a9:=am.bk.c2
    go_wp2_with fail
    clear a7 a1 a4 a2 a9
    refine(aE.out _ V.out).mono ?_
    rintro e cz ⟨rfl,A⟩
    have aa:=hid (V.keep A)
    have ay:=hid (ao.keep A)
    have J:=hid (H.keep A)
    have ar:=hid (am.keep A)
    have aX:=hid (a3.keep A)
    have aO:=hid (a8.trans (Gr.quiet A))
    clear A
    have aP:=aa.c
    have aL:=ay.bk.c5
    have aI:=J.bk.c2
    have aK:=J.bk.f
    have aV:=ar.bk.c2
    go_wp2_with fail
    clear aP aL aI aK aV
    refine(HSG.out _).mono ?_
    rintro e ws ⟨rfl,rfl⟩
    have aS:=aa.c
    have aT:=ay.bk.c5
    have aH:=J.bk.c2
    have aU:=J.bk.f
    have aJ:=ar.bk.c2
    go_wp2_with fail
    clear aS aT aH aU aJ
    refine(aE.out _ aa.out).mono ?_
    rintro e cW ⟨rfl,ap⟩
    have b0:=hid (aa.keep ap)
    have bB:=hid (ay.keep ap)
    have aM:=hid (J.keep ap)
    have b5:=hid (ar.keep ap)
    have cr:=hid (aX.keep ap)
    have cb:=hid (aO.trans (Gr.quiet ap))
    clear ap
    have bQ:=b0.c
    have bR:=bB.bk.c5
    have bZ:=aM.bk.c2
    have bO:=aM.bk.f
    have cL:=b5.bk.c2
    go_wp2_with fail
    clear bQ bR bZ bO cL
    refine(take_yes c2 _ b0.out HC.out HL.out (by have:=HV.out;omega) (by have:=HV.out;omega) ck.out).mono ?_
    rintro e cS ⟨rfl,bh,au⟩
    have bH:=hid bh
    have bu:=hid (bB.go au)
    have aN:=hid (aM.go au)
    have br:=hid (b5.go au)
    have ci:=hid (cr.go au)
    have bU:=hid (cb.trans au)
    clear bh au
    have bK:=bH.c
    have bP:=bu.bk.c5
    have cw:=aN.bk.c2
    have c8:=aN.bk.f
    have bN:=br.bk.c2
    go_wp2_with fail
    clear bK bP cw c8 bN
    refine(part_any _ _ _ _ _ _ _).mono ?_
    rintro e bs ⟨rfl,aj⟩
    have bv:=hid (bH.keep aj)
    have bx:=hid (bu.keep aj)
    have aQ:=hid (aN.keep aj)
    have bm:=hid (br.keep aj)
    have cH:=hid (ci.keep aj)
    have cG:=hid (bU.trans (Gr.quiet aj))
    clear aj
    have c7:=bv.c
    have cA:=bx.bk.c5
    have bY:=aQ.bk.c2
    have cj:=aQ.bk.f
    have ca:=bm.bk.c2
    go_wp2_with fail
    clear c7 cA bY cj ca
    refine(show Calls _ _ _ _ (Rq w0 l a cap N0 s (m+1) aq bs RY) by rw[<-HRY.out];exact HE.out 1 pi pg false (m+1) aq bs (by decide) (by decide) (by have:=HJM.out;omega) bv.out).mono ?_
    rintro e ae ⟨T,ak,b8,bL,rfl,s9,aw,t9,b9⟩
    have ba:=hid s9
    have bt:=hid (bx.go aw)
    have bE:=hid (aQ.go aw)
    have bI:=hid (bm.go aw)
    have cE:=hid (cH.go aw)
    have cc:=hid (cG.trans aw)
    have ce:=hid t9
    have bp:=hid b9
    obtain⟨aG,aD,rfl,cq⟩:=t9.lies
    clear s9 t9 aw b9 cq
    have db:=hid (show w.heap.size<ae.heap.size from bt.bk.lt)
    have cT:=hid (show(w.heap.size+1)<ae.heap.size from bE.bk.lt)
    have cZ:=hid (show ab.heap.size<ae.heap.size from bI.bk.lt)
    obtain⟨an,az⟩:∃W,W=ae.alloc (.cells #[.slice aG ak.length aD,.bool b8] 95):=⟨_,rfl⟩
    have ac:Below ae.heap.size ae an:=by rw[az];exact(Below.refl _ _).alloc (Nat.le_refl _) _
    have bj:=hid (show Mq w0.heap.size ae.heap.size #[.slice aG ak.length aD,.bool b8] 95 bL an from Mq.of ba.out (by rw[az];exact Bk.new _ _ _) (Nat.le_refl _))
    have bX:=hid (show an.heap.size=ae.heap.size+1 by rw[az];simp)
    have aY:=hid (ba.keep ac)
    have bc:=hid (bt.keep ac)
    have aA:=hid (bE.keep ac)
    have b7:=hid (bI.keep ac)
    have b6:=hid (cE.keep ac)
    have bJ:=hid (ce.out.keep ac)
    have c0:=hid (cc.trans (Gr.quiet ac))
    clear ac
    have bl:=aY.c
    have bF:=bc.bk.c5
    have bw:=aA.bk.c2
    have bo:=aA.bk.f
    have bn:=b7.bk.c2
    have b3:=bj.bk.c2
    rw[az]at bl bF bw bo bn b3
    go_wp2_with fail
    rw[<-az]
    clear bl bF bw bo bn b3 az
    have b2:=b6.lies'
    have bi:=bJ.lies'
    refine(over2_any bX.out 15 c2 ⟨#[]⟩ y ak b2 bi (wk_mono (gt_wk af.out OX.out) (by have:=aR.out;have:=HAT.out;omega)) (wk_mono (gt_wk bp.out ORY.out) (by have:=aR.out;have:=(ok_at ORY.out).2;omega))).mono ?_
    rintro e bV ⟨T,z,r,rfl,hz,hp,b4,hr⟩
    have u2560:=Tq.of (aY.alloc (.cells #[.slice U y.length D,.slice aG ak.length aD] 26)) hp hr
    rw[hz]at u2560
    have cM:=hid (show(an.alloc (.cells #[.slice U y.length D,.slice aG ak.length aD] 26)).heap.size=an.heap.size+1 by simp)
    rw[cM.out]at u2560
    have cC:=hid u2560
    have Z:Below an.heap.size an bV:=((Below.refl _ _).alloc (Nat.le_refl _) _).trans (b4.mono (by simp))
    have aW:=hid (aY.keep Z)
    have ct:=hid (bc.keep Z)
    have aF:=hid (aA.keep Z)
    have cm:=hid (b7.keep Z)
    have cI:=hid (bj.keep Z)
    have cY:=hid (b6.keep Z)
    have cV:=hid (bJ.keep Z)
    have bW:=hid (c0.trans (Gr.quiet Z))
    obtain⟨aZ,bz,rfl,-⟩:=u2560.lies
    clear u2560 hz hp hr b4 Z b2 bi
    have bT:=aW.c
    have bS:=ct.bk.c5
    have cy:=aF.bk.c2
    have cO:=aF.bk.f
    have co:=cm.bk.c2
    have cJ:=cI.bk.c2
    go_wp2
    clear bT bS cy cO co cJ
    obtain⟨bM,cB⟩:=(aF.bk.put2 (.slice aZ (makeT (nd0 15 c2 ⟨#[]⟩) [y,ak]).length bz) (.bool false)).c2
    exact bodyPost_ret (v:= .agg #[.slice aZ (makeT (nd0 15 c2 ⟨#[]⟩) [y,ak]).length bz,.bool false]) (by simp[results,Tryz.results110,go_sem,bM,cB]) rfl (by rw[HPR.out];exact rq_end HLT.out (by first|exact aW.out|(simp only[at_over1,bd_over1,at_over2,bd_over2];exact aW.out)) bW.out aF.out cC.out (by exact Nat.le_succ _) (by exact Nat.lt_succ_of_lt aA.bk.lt) (gt_over2 af.out OX.out (Nat.le_succ m) bp.out ORY.out))
end
end Go.Proofs.YtebjmdpkobhcbaaGreatDoor.qs
