/- A part of the proof; no condition of its own. -/
import Derived.Test.YtebjmdpkobhcbaaGreatDoorZGQs
namespace Go.Proofs.YtebjmdpkobhcbaaGreatDoor.qs
open Go.ChangeShapes Go.WideShapes Go.ChangeAt Go.RowKit
open tk (Tk)
open nd (Nd PT KidV makeT)
open ps (Ps posOk)
open pe
open rt (isLval)
open pr (Bk Gr X0 below_drewN eq_facts ne_facts fld_k fld_s)
set_option linter.unusedVariables false
set_option linter.unusedSimpArgs false
set_option maxRecDepth 20000
theorem Tq.lies'{b B n c:Nat}{aT:Option Addr}{t:List Nd}{v:Value}{w:World}(h:Tq b B (.slice aT n c) t v w):nd.Lies w.heap.size w aT t:=by
 obtain⟨a2,c2,e,hl⟩:=h.lies
 injection e with e1 _ _
 subst e1
 exact hl
section
variable {w0:World} {l:List Tk} {a:Option Addr} {cap:Nat} {N0:List Tk} {s j:Nat} {bd:Bool} {v:Value}
theorem take_yes(k:Int)(w:World)(hst:Sq w0 l a cap N0 s j false v w)(hc:tk.Lies w0.heap.size w0 a l)(hl:l.length≤100000)(hk0:¬k=0)(hk2:¬k=2)(h:kd l j=k):
  Calls Tryz.prog 107 #[.pointer (some ⟨w0.heap.size,0,none⟩),.int .i64 k] w fun e w'=>e= .returned (.agg #[.int .i64 k,.string (tx l j),.int .i64 (pr.ta l j)])∧Sq w0 l a cap N0 s (j+1) false v w'∧Gr (X0 w0.heap.size) v v w w':=by
 have:=take_any k w hst hc hl hk0 hk2
 have e1:hit l false j k=true:=by unfold hit;rw[h];simp
 unfold hitT hitAt at this
 rw[e1,if_pos rfl,if_pos rfl,h]at this
 exact this
theorem take_no(k:Int)(w:World)(hst:Sq w0 l a cap N0 s j bd v w)(hc:tk.Lies w0.heap.size w0 a l)(hl:l.length≤100000)(hk0:¬k=0)(hk2:¬k=2)(h:bd=true∨¬kd l j=k):
  Calls Tryz.prog 107 #[.pointer (some ⟨w0.heap.size,0,none⟩),.int .i64 k] w fun e w'=>e= .returned (.agg #[.int .i64 0,.string ⟨#[]⟩,.int .i64 0])∧Sq w0 l a cap N0 s j true v w'∧Gr (X0 w0.heap.size) v v w w':=by
 have:=take_any k w hst hc hl hk0 hk2
 have e1:hit l bd j k=false:=by unfold hit;rcases h with rfl|h;rfl;simp[h]
 unfold hitT hitAt at this
 rw[e1]at this
 exact this
end
theorem over1_any{w:World}{g:Nat}(hg:w.heap.size=g)(k op:Int)(sx:ByteArray)(t1:List Nd){a1:Option Addr}{c1:Nat}(h1:nd.Lies w.heap.size w a1 t1)(k1:Wk 30000 t1):
  Calls Tryz.prog 109 #[.agg #[.int .i64 k,.int .i64 op,.string sx,.string ⟨#[]⟩,.slice none 0 0],.slice (some ⟨g,0,none⟩) 1 1] (w.alloc (.cells #[.slice a1 t1.length c1] 26)) (Ov (makeT (nd0 k op sx) [t1]) (w.alloc (.cells #[.slice a1 t1.length c1] 26))):=by
 subst hg
 exact over_any k op sx [t1] _ 1 _ (parts1 _ h1) (by have:=k1.1;simp[nd.sumL];omega) (by simp) (fun q hq t ht=>by simp at hq;subst hq;exact k1.2 t ht)
theorem over2_any{w:World}{g:Nat}(hg:w.heap.size=g)(k op:Int)(sx:ByteArray)(t1 t2:List Nd){a1 a2:Option Addr}{c1 c2:Nat}(h1:nd.Lies w.heap.size w a1 t1)(h2:nd.Lies w.heap.size w a2 t2)(k1:Wk 30000 t1)(k2:Wk 30000 t2):
  Calls Tryz.prog 109 #[.agg #[.int .i64 k,.int .i64 op,.string sx,.string ⟨#[]⟩,.slice none 0 0],.slice (some ⟨g,0,none⟩) 2 2] (w.alloc (.cells #[.slice a1 t1.length c1,.slice a2 t2.length c2] 26)) (Ov (makeT (nd0 k op sx) [t1,t2]) (w.alloc (.cells #[.slice a1 t1.length c1,.slice a2 t2.length c2] 26))):=by
 subst hg
 exact over_any k op sx [t1,t2] _ 2 _ (parts2 _ h1 h2) (by have:=k1.1;have:=k2.1;simp[nd.sumL];omega) (by simp) (fun q hq t ht=>by simp at hq;rcases hq with rfl|rfl;exact k1.2 t ht;exact k2.2 t ht)
theorem over3_any{w:World}{g:Nat}(hg:w.heap.size=g)(k op:Int)(sx:ByteArray)(t1 t2 t3:List Nd){a1 a2 a3:Option Addr}{c1 c2 c3:Nat}(h1:nd.Lies w.heap.size w a1 t1)(h2:nd.Lies w.heap.size w a2 t2)(h3:nd.Lies w.heap.size w a3 t3)(k1:Wk 30000 t1)(k2:Wk 30000 t2)(k3:Wk 30000 t3):
  Calls Tryz.prog 109 #[.agg #[.int .i64 k,.int .i64 op,.string sx,.string ⟨#[]⟩,.slice none 0 0],.slice (some ⟨g,0,none⟩) 3 3] (w.alloc (.cells #[.slice a1 t1.length c1,.slice a2 t2.length c2,.slice a3 t3.length c3] 26)) (Ov (makeT (nd0 k op sx) [t1,t2,t3]) (w.alloc (.cells #[.slice a1 t1.length c1,.slice a2 t2.length c2,.slice a3 t3.length c3] 26))):=by
 subst hg
 exact over_any k op sx [t1,t2,t3] _ 3 _ (parts3 _ h1 h2 h3) (by have:=k1.1;have:=k2.1;have:=k3.1;simp[nd.sumL];omega) (by simp) (fun q hq t ht=>by simp at hq;rcases hq with rfl|rfl|rfl;exact k1.2 t ht;exact k2.2 t ht;exact k3.2 t ht)
theorem wk_mono{K K':Nat}{t:List Nd}(h:Wk K t)(hK:K≤K'):Wk K' t:=⟨Nat.le_trans h.1 hK,h.2⟩
theorem put_make(k op:Int)(sx:ByteArray)(ps:List (List Nd)):put false (makeT (nd0 k op sx) ps)=isLval k:=by unfold put;rw[root_make];rfl
theorem at_over1(k op:Int)(r:R):atQ (over1 k op r)=atQ r:=by cases r<;>rfl
theorem bd_over1(k op:Int)(r:R):bdQ (over1 k op r)=bdQ r:=by cases r<;>rfl
theorem at_over2(k op:Int)(t:List Nd)(r:R):atQ (over2 k op t r)=atQ r:=by cases r<;>rfl
theorem bd_over2(k op:Int)(t:List Nd)(r:R):bdQ (over2 k op t r)=bdQ r:=by cases r<;>rfl
section
variable {l:List Tk} {M i m:Nat} {t1 t2 t3:List Nd} {h1 h2 h3:Bool} {k op:Int} {r:R}
theorem wk_one{K:Nat}{sx:ByteArray}(h:Wk K t1):Wk (K+1) (makeT (nd0 k op sx) [t1]):=wk_make (fun q hq n hn=>by simp at hq;subst hq;exact h.2 n hn) (by simp) (by have:=h.1;simp[nd.sumL];omega)
theorem wk_two{K1 K2:Nat}{sx:ByteArray}(h:Wk K1 t1)(h':Wk K2 t2):Wk (K1+K2+1) (makeT (nd0 k op sx) [t1,t2]):=wk_make (fun q hq n hn=>by simp at hq;rcases hq with rfl|rfl;exact h.2 n hn;exact h'.2 n hn) (by simp) (by have:=h.1;have:=h'.1;simp[nd.sumL];omega)
theorem wk_three{K1 K2 K3:Nat}{sx:ByteArray}(h:Wk K1 t1)(h':Wk K2 t2)(h'':Wk K3 t3):Wk (K1+K2+K3+1) (makeT (nd0 k op sx) [t1,t2,t3]):=wk_make (fun q hq n hn=>by simp at hq;rcases hq with rfl|rfl|rfl;exact h.2 n hn;exact h'.2 n hn;exact h''.2 n hn) (by simp) (by have:=h.1;have:=h'.1;have:=h''.1;simp[nd.sumL];omega)
theorem gt_over1(hi:i<m)(hy:GtR m t1 h1 r)(oy:Ok M l m r):GtR i (makeT (nd0 k op ⟨#[]⟩) [t1]) false (over1 k op r):=by
 have hw:=gt_wk hy oy
 cases r with
 |bad j=>exact wk_mono (wk_one hw) (by have:=oy.1;show 2*(j-m)+1≤2*(j-i);omega)
 |ok lv tg u j=>
  obtain⟨rfl,-⟩:=hy
  exact⟨rfl,(put_make _ _ _ _).symm⟩
theorem gt_over2{lv:Int}{tg:Bool}{t:List Nd}{m':Nat}(hx:GtR i t1 h1 (.ok lv tg t m))(ox:Ok M l i (.ok lv tg t m))(hm:m≤m')(hy:GtR m' t2 h2 r)(oy:Ok M l m' r):GtR i (makeT (nd0 k op ⟨#[]⟩) [t1,t2]) false (over2 k op t r):=by
 have hw:=gt_wk hy oy
 have h:=gt_wk1 hx ox
 have hlt:=ox.1
 obtain⟨rfl,-⟩:=hx
 cases r with
 |bad j=>exact wk_mono (wk_two h hw) (by have:=oy.1;show 2*(m-i)-1+2*(j-m')+1≤2*(j-i);omega)
 |ok lv' tg' u j=>
  obtain⟨rfl,-⟩:=hy
  exact⟨rfl,(put_make _ _ _ _).symm⟩
end
end Go.Proofs.YtebjmdpkobhcbaaGreatDoor.qs

namespace Go.Proofs.YtebjmdpkobhcbaaGreatDoor.qs
open Lib (hid)
open Go.ChangeShapes Go.WideShapes Go.ChangeAt Go.RowKit
open tk (Tk)
open nd (Nd PT KidV makeT)
open ps (Ps posOk)
open pe
open rt (isLval)
open operand (begins)
open lv (opLevel)
open pr (Bk Gr X0 below_drewN eq_facts ne_facts fld_k fld_s)
set_option linter.unusedVariables false
set_option linter.unusedSimpArgs false
set_option maxRecDepth 20000
section
variable {w0:World} {l:List Tk} {a:Option Addr} {cap:Nat} {N0:List Tk} {s j:Nat} {v:Value} {E:Ps→Nat→R} {M:Nat}
def powR(E:Ps→Nat→R)(l:List Tk)(i g:Bool):R→R
 | .bad m=> .bad m
 | .ok lv tg t m=>if kd l m=60 then over2 12 60 t (E (cp 11 i g) (m+1))else .ok lv tg t m
set_option maxHeartbeats 6400000 in
theorem pow_any(pl:Int)(pd pi pg psg:Bool)(w:World)(hst:Sq w0 l a cap N0 s j false v w)(hc:tk.Lies w0.heap.size w0 a l)(hl:l.length≤6000)(RX:R)(hX:∀(v:Value) (w:World),Sq w0 l a cap N0 s j false v w→Calls Tryz.prog 63 #[.pointer (some ⟨w0.heap.size,0,none⟩),.agg #[.int .i64 13,.bool false,.bool pi,.bool pg,.bool false]] w (Rq w0 l a cap N0 s j v w RX))(oX:Ok M l j RX)(hE:CallS w0 l a cap N0 s E (j+1))(oE:∀p i,i≤l.length→Ok M l i (E p i)):
  Calls Tryz.prog 115 #[.pointer (some ⟨w0.heap.size,0,none⟩),.agg #[.int .i64 pl,.bool pd,.bool pi,.bool pg,.bool psg]] w (Rq w0 l a cap N0 s j v w (powR E l pi pg RX)):=by
 have HC:=hid hc
 have HL:=hid (show l.length≤100000 by omega)
 have aQ:=hid hl
 have HX:=hid hX
 have OX:=hid oX
 have HE:=hid hE
 have OE:=hid oE
 have HAT:=hid (ok_at oX)
 obtain⟨W,hW⟩:∃W,W=(w.alloc (.cells #[.int .i64 pl,.bool pd,.bool pi,.bool pg,.bool psg] 44)).alloc (.cells #[.slice none 0 0,.bool false] 95):=⟨_,rfl⟩
 have hB:Below w.heap.size w W:=by rw[hW];exact((Below.refl _ _).alloc (Nat.le_refl _) _).alloc (by simp) _
 have P0:=hid (show Mq w0.heap.size w.heap.size #[.int .i64 pl,.bool pd,.bool pi,.bool pg,.bool psg] 44 v W from Mq.of hst (by rw[hW];exact(Bk.new _ _ _).alloc _) (Nat.le_refl _))
 have R0:=hid (show Mq w0.heap.size (w.heap.size+1) #[.slice none 0 0,.bool false] 95 v W from Mq.of hst (by rw[hW];have:=Bk.new (w.alloc (.cells #[.int .i64 pl,.bool pd,.bool pi,.bool pg,.bool psg] 44)) #[.slice none 0 0,.bool false] 95;simpa using this) (Nat.le_succ _))
 have S0:=hid (hst.keep hB)
 have G0:=hid (show Gr (X0 w0.heap.size) v v w W from Gr.quiet hB)
 have HLT:=hid hst.lt
 have HBS:=hid hB.size
 have HJN:=hid hst.jn
 have HWS:=hid (show W.heap.size=w.heap.size+2 by rw[hW];simp)
 clear hB hst
 clear hX oX hE oE hc hl
 obtain⟨c1,c2,c3,c4⟩:=S0.c
 have m5:=P0.bk.c5
 have aR:=R0.bk.c2
 have aV:=R0.bk.f
 rw[hW]at c1 c2 c3 c4 m5 aR aV
 go_enter Tryz.func115,Tryz.ntmps115
 go_wp2_with fail
 rw[←hW]
 clear c1 c2 c3 c4 m5 aR aV hW
 refine(part_any _ _ _ _ _ _ _).mono ?_
 rintro e bm ⟨rfl,am⟩
 have aH:=hid (S0.keep am)
 have aU:=hid (P0.keep am)
 have an:=hid (R0.keep am)
 have bS:=hid (G0.trans (Gr.quiet am))
 clear am
 have bQ:=aH.c
 have ce:=aU.bk.c5
 have bD:=an.bk.c2
 go_wp2_with fail
 clear bQ ce bD
 refine(HX.out v bm aH.out).mono ?_
 rintro e ai ⟨T,y,ab,al,rfl,s9,aq,t9,ba⟩
 have aK:=hid s9
 have cd:=hid (aU.go aq)
 have bw:=hid (an.go aq)
 have b2:=hid (bS.trans aq)
 have bE:=hid t9
 have ay:=hid ba
 obtain⟨O,K,rfl,b9⟩:=t9.lies
 clear s9 t9 aq ba b9
 obtain⟨aj,o⟩:∃W,W=ai.alloc (.cells #[.slice O y.length K,.bool ab] 95):=⟨_,rfl⟩
 have ad:Below ai.heap.size ai aj:=by rw[o];exact(Below.refl _ _).alloc (Nat.le_refl _) _
 have ak:=hid (show Mq w0.heap.size ai.heap.size #[.slice O y.length K,.bool ab] 95 al aj from Mq.of aK.out (by rw[o];exact Bk.new _ _ _) (Nat.le_refl _))
 have cg:=hid (show aj.heap.size=ai.heap.size+1 by rw[o];simp)
 have bl:=hid (aK.keep ad)
 have af:=hid (cd.keep ad)
 have A:=hid (bw.keep ad)
 have aA:=hid (bE.out.keep ad)
 have a1:=hid (b2.trans (Gr.quiet ad))
 clear ad
 cases RX with
 |bad m=>
  have Sb:=hid (show Sq w0 l a cap N0 s m true al aj from bl.out)
  have F:=Sb.c
  have D:=af.bk.c5
  have G:=A.bk.c2
  have U:=A.bk.f
  have N:=ak.bk.c2
  rw[o]at F D G U N
  go_wp2
  rw[←o]
  clear F D G U N o
  obtain⟨cf,ca⟩:=(A.bk.put2 (.slice O y.length K) (.bool ab)).c2
  exact bodyPost_ret (v:= .agg #[.slice O y.length K,.bool ab]) (by simp[results,Tryz.results115,go_sem,cf,ca]) rfl (rq_end HLT.out Sb.out a1.out A.out aA.out (by exact Nat.le_succ _) (by exact an.bk.lt) (ay.out))
 |ok lv tg tx m=>
  have Sb:=hid (show Sq w0 l a cap N0 s m false al aj from bl.out)
  by_cases h60:kd l m=60
  case pos=>
   have HK:=hid (kind_any _ Sb.out HC.out HL.out)
   rw[h60]at HK
   have HPR:=hid (show powR E l pi pg (.ok lv tg tx m)=over2 12 60 tx (E (cp 11 pi pg) (m+1))from if_pos h60)
   have bv:=hid h60
   have HM:=hid (kd_lt (l:=l) (i:=m) (by omega))
   clear h60
   have F:=Sb.c
   have D:=af.bk.c5
   have G:=A.bk.c2
   have U:=A.bk.f
   have N:=ak.bk.c2
   rw[o]at F D G U N
   go_wp2_with fail
   rw[←o]
   clear F D G U N o
   refine(HK.out).mono ?_
   rintro e bC ⟨rfl,h⟩
   have ah:=hid (Sb.keep h)
   have aw:=hid (af.keep h)
   have J:=hid (A.keep h)
   have ax:=hid (ak.keep h)
   have a4:=hid (aA.keep h)
   have aB:=hid (a1.trans (Gr.quiet h))
   clear h
   have a2:=ah.c
   have a0:=aw.bk.c5
   have a6:=J.bk.c2
   have a7:=J.bk.f
   have a8:=ax.bk.c2
   go_wp2_with fail
   clear a2 a0 a6 a7 a8
   refine(take_yes 60 _ ah.out HC.out HL.out (by decide) (by decide) bv.out).mono ?_
   rintro e ci ⟨rfl,s9,g9⟩
   have St:=hid s9
   have aT:=hid (aw.go g9)
   have az:=hid (J.go g9)
   have aJ:=hid (ax.go g9)
   have bF:=hid (a4.go g9)
   have b8:=hid (aB.trans g9)
   clear s9 g9
   have bN:=St.c
   have bZ:=aT.bk.c5
   have b1:=az.bk.c2
   have bV:=az.bk.f
   have b4:=aJ.bk.c2
   go_wp2_with fail
   clear bN bZ b1 bV b4
   refine(part_any _ _ _ _ _ _ _).mono ?_
   rintro e aZ ⟨rfl,aa⟩
   have aF:=hid (St.keep aa)
   have aX:=hid (aT.keep aa)
   have a5:=hid (az.keep aa)
   have bf:=hid (aJ.keep aa)
   have b5:=hid (bF.keep aa)
   have bK:=hid (b8.trans (Gr.quiet aa))
   clear aa
   have bO:=aF.c
   have bs:=aX.bk.c5
   have bt:=a5.bk.c2
   have bW:=a5.bk.f
   have b7:=bf.bk.c2
   go_wp2_with fail
   clear bO bs bt bW b7
   obtain⟨RY,hRY⟩:∃RY,E (cp 11 pi pg) (m+1)=RY:=⟨_,rfl⟩
   have HRY:=hid hRY
   have OY:=hid (show Ok M l (m+1) RY by rw[←hRY];exact OE.out _ _ HM.out)
   clear hRY
   refine(show Calls _ _ _ _ (Rq w0 l a cap N0 s (m+1) al aZ RY) by rw[←HRY.out];exact HE.out 11 pi pg false (m+1) al aZ (by decide) (by decide) (by have:=HAT.out.1;simp only[atQ]at this;omega) aF.out).mono ?_
   rintro e ag ⟨T,Z,aC,bJ,rfl,s9,ac,t9,aG⟩
   have aN:=hid s9
   have bR:=hid (aX.go ac)
   have bz:=hid (a5.go ac)
   have bL:=hid (bf.go ac)
   have bP:=hid (b5.go ac)
   have b3:=hid (bK.trans ac)
   have bM:=hid t9
   have aS:=hid aG
   obtain⟨ao,ar,rfl,cc⟩:=t9.lies
   clear s9 t9 ac aG cc
   obtain⟨V,ae⟩:∃W,W=ag.alloc (.cells #[.slice ao Z.length ar,.bool aC] 95):=⟨_,rfl⟩
   have Q:Below ag.heap.size ag V:=by rw[ae];exact(Below.refl _ _).alloc (Nat.le_refl _) _
   have aO:=hid (show Mq w0.heap.size ag.heap.size #[.slice ao Z.length ar,.bool aC] 95 bJ V from Mq.of aN.out (by rw[ae];exact Bk.new _ _ _) (Nat.le_refl _))
   have bH:=hid (show V.heap.size=ag.heap.size+1 by rw[ae];simp)
   have a3:=hid (aN.keep Q)
   have bc:=hid (bR.keep Q)
   have au:=hid (bz.keep Q)
   have be:=hid (bL.keep Q)
   have bb:=hid (bP.keep Q)
   have aD:=hid (bM.out.keep Q)
   have bU:=hid (b3.trans (Gr.quiet Q))
   clear Q
   have aW:=a3.c
   have bh:=bc.bk.c5
   have bg:=au.bk.c2
   have aE:=au.bk.f
   have aP:=be.bk.c2
   have bj:=aO.bk.c2
   rw[ae]at aW bh bg aE aP bj
   go_wp2_with fail
   rw[←ae]
   clear aW bh bg aE aP bj ae
   have aM:=bb.lies'
   have aY:=aD.lies'
   refine(over2_any bH.out 12 60 ⟨#[]⟩ y Z aM aY (wk_mono (gt_wk ay.out OX.out) (by have:=aQ.out;have:=HAT.out;simp only[atQ]at*;omega)) (wk_mono (gt_wk aS.out OY.out) (by have:=aQ.out;have:=(ok_at OY.out).2;omega))).mono ?_
   rintro e cb ⟨T,z,r,rfl,hz,hp,bi,hr⟩
   have u1860:=Tq.of (a3.alloc (.cells #[.slice O y.length K,.slice ao Z.length ar] 26)) hp hr
   rw[hz]at u1860
   have b0:=hid (show(V.alloc (.cells #[.slice O y.length K,.slice ao Z.length ar] 26)).heap.size=V.heap.size+1 by simp)
   rw[b0.out]at u1860
   have bG:=hid u1860
   have C:Below V.heap.size V cb:=((Below.refl _ _).alloc (Nat.le_refl _) _).trans (bi.mono (by simp))
   have a9:=hid (a3.keep C)
   have bx:=hid (bc.keep C)
   have ap:=hid (au.keep C)
   have bn:=hid (be.keep C)
   have bo:=hid (aO.keep C)
   have cj:=hid (bb.keep C)
   have ch:=hid (aD.keep C)
   have bA:=hid (bU.trans (Gr.quiet C))
   obtain⟨aL,aI,rfl,-⟩:=u1860.lies
   clear u1860 hz hp hr bi C aM aY
   have bI:=a9.c
   have bu:=bx.bk.c5
   have bX:=ap.bk.c2
   have bp:=ap.bk.f
   have b6:=bn.bk.c2
   have bY:=bo.bk.c2
   go_wp2
   clear bI bu bX bp b6 bY
   rw[HRY.out]at HPR
   obtain⟨bB,bT⟩:=(ap.bk.put2 (.slice aL (makeT (nd0 12 60 ⟨#[]⟩) [y,Z]).length aI) (.bool false)).c2
   exact bodyPost_ret (v:= .agg #[.slice aL (makeT (nd0 12 60 ⟨#[]⟩) [y,Z]).length aI,.bool false]) (by simp[results,Tryz.results115,go_sem,bB,bT]) rfl (by rw[HPR.out];exact rq_end HLT.out (by first|exact a9.out|(simp only[at_over1,bd_over1,at_over2,bd_over2];exact a9.out)) bA.out ap.out bG.out (by exact Nat.le_succ _) (by exact Nat.lt_succ_of_lt au.bk.lt) (gt_over2 ay.out OX.out (Nat.le_succ m) aS.out OY.out))
  case neg=>
   have HK:=hid (kind_any _ Sb.out HC.out HL.out)
   have HPR:=hid (show powR E l pi pg (.ok lv tg tx m)= .ok lv tg tx m from if_neg h60)
   obtain⟨c,hcc⟩:∃c,kd l m=c:=⟨_,rfl⟩
   rw[hcc]at HK h60
   obtain⟨q1,q2⟩:=ne_facts h60
   clear h60 hcc
   have F:=Sb.c
   have D:=af.bk.c5
   have G:=A.bk.c2
   have U:=A.bk.f
   have N:=ak.bk.c2
   rw[o]at F D G U N
   go_wp2_with fail
   rw[←o]
   clear F D G U N o
   refine(HK.out).mono ?_
   rintro e bC ⟨rfl,h⟩
   have ah:=hid (Sb.keep h)
   have aw:=hid (af.keep h)
   have J:=hid (A.keep h)
   have ax:=hid (ak.keep h)
   have a4:=hid (aA.keep h)
   have aB:=hid (a1.trans (Gr.quiet h))
   clear h
   have a2:=ah.c
   have a0:=aw.bk.c5
   have a6:=J.bk.c2
   have a7:=J.bk.f
   have a8:=ax.bk.c2
   go_wp2
   clear a2 a0 a6 a7 a8
   obtain⟨br,bq⟩:=(J.bk.put2 (.slice O y.length K) (.bool ab)).c2
   exact bodyPost_ret (v:= .agg #[.slice O y.length K,.bool ab]) (by simp[results,Tryz.results115,go_sem,br,bq]) rfl (by rw[HPR.out];exact rq_end HLT.out (ah.out) aB.out J.out a4.out (by exact Nat.le_succ _) (by exact an.bk.lt) (ay.out))
end
end Go.Proofs.YtebjmdpkobhcbaaGreatDoor.qs

namespace Go.Proofs.YtebjmdpkobhcbaaGreatDoor.qs
open Lib (hid)
open Go.ChangeShapes Go.WideShapes Go.ChangeAt Go.RowKit
open tk (Tk)
open nd (Nd PT KidV makeT)
open ps (Ps posOk)
open pe
open rt (isLval)
open operand (begins)
open lv (opLevel)
open pr (Bk Gr X0 below_drewN eq_facts ne_facts fld_k fld_s)
set_option linter.unusedVariables false
set_option linter.unusedSimpArgs false
set_option maxRecDepth 20000
section
variable {w0:World} {l:List Tk} {a:Option Addr} {cap:Nat} {N0:List Tk} {s j:Nat} {v:Value} {E:Ps→Nat→R} {M:Nat}
set_option maxHeartbeats 6400000 in
theorem pre_any(pl:Int)(pd pi pg psg:Bool)(w:World)(hst:Sq w0 l a cap N0 s j false v w)(hc:tk.Lies w0.heap.size w0 a l)(hl:l.length≤6000)(hE:CallS w0 l a cap N0 s E (j+1))(oE:∀p i,i≤l.length→Ok M l i (E p i))(hk:isInc (kd l j)=true):
  Calls Tryz.prog 62 #[.pointer (some ⟨w0.heap.size,0,none⟩),.agg #[.int .i64 pl,.bool pd,.bool pi,.bool pg,.bool psg]] w (Rq w0 l a cap N0 s j v w (preR E l pi pg j)):=by
 have HC:=hid hc
 have HL:=hid (show l.length≤100000 by omega)
 have b4:=hid hl
 have HE:=hid hE
 have OE:=hid oE
 have HJ:=hid (kd_lt (l:=l) (i:=j) (by have:=inc_vals hk;omega))
 obtain⟨W,hW⟩:∃W,W=(w.alloc (.cells #[.int .i64 pl,.bool pd,.bool pi,.bool pg,.bool psg] 44)).alloc (.cells #[.slice none 0 0,.bool false] 95):=⟨_,rfl⟩
 have hB:Below w.heap.size w W:=by rw[hW];exact((Below.refl _ _).alloc (Nat.le_refl _) _).alloc (by simp) _
 have P0:=hid (show Mq w0.heap.size w.heap.size #[.int .i64 pl,.bool pd,.bool pi,.bool pg,.bool psg] 44 v W from Mq.of hst (by rw[hW];exact(Bk.new _ _ _).alloc _) (Nat.le_refl _))
 have R0:=hid (show Mq w0.heap.size (w.heap.size+1) #[.slice none 0 0,.bool false] 95 v W from Mq.of hst (by rw[hW];have:=Bk.new (w.alloc (.cells #[.int .i64 pl,.bool pd,.bool pi,.bool pg,.bool psg] 44)) #[.slice none 0 0,.bool false] 95;simpa using this) (Nat.le_succ _))
 have S0:=hid (hst.keep hB)
 have G0:=hid (show Gr (X0 w0.heap.size) v v w W from Gr.quiet hB)
 have HLT:=hid hst.lt
 have HBS:=hid hB.size
 have HJN:=hid hst.jn
 have HWS:=hid (show W.heap.size=w.heap.size+2 by rw[hW];simp)
 clear hB hst
 obtain⟨c,hcc⟩:∃c,kd l j=c:=⟨_,rfl⟩
 have hv:=inc_vals hk
 rw[hcc]at hv
 have HCC:=hid hcc
 have HV:=hid hv
 have HK:=hid (kind_any _ S0.out HC.out HL.out)
 rw[hcc]at HK
 clear hE oE hc hl hk hcc hv
 obtain⟨c1,c2,c3,c4⟩:=S0.c
 have m5:=P0.bk.c5
 have b7:=R0.bk.c2
 have bD:=R0.bk.f
 rw[hW]at c1 c2 c3 c4 m5 b7 bD
 go_enter Tryz.func62,Tryz.ntmps62
 go_wp2_with fail
 rw[←hW]
 clear c1 c2 c3 c4 m5 b7 bD hW
 refine(HK.out).mono ?_
 rintro e d0 ⟨rfl,a9⟩
 have bm:=hid (S0.keep a9)
 have bC:=hid (P0.keep a9)
 have bl:=hid (R0.keep a9)
 have dq:=hid (G0.trans (Gr.quiet a9))
 clear a9
 have dg:=bm.c
 have dz:=bC.bk.c5
 have cX:=bl.bk.c2
 go_wp2_with fail
 clear dg dz cX
 refine(take_yes c _ bm.out HC.out HL.out (by have:=HV.out;omega) (by have:=HV.out;omega) HCC.out).mono ?_
 rintro e d2 ⟨rfl,bq,aE⟩
 have F:=hid bq
 have aj:=hid (bC.go aE)
 have an:=hid (bl.go aE)
 have aX:=hid (dq.trans aE)
 clear bq aE
 have N:=hid (fun W2 (h2:Sq w0 l a cap N0 s (j+1) false v W2)=>kind_any W2 h2 HC.out HL.out)
 by_cases h6:kd l (j+1)=6
 case pos=>
  have HPR:=hid (show preR E l pi pg j=over1 9 c (E (cp 14 pi pg) (j+1)) by unfold preR;rw[HCC.out];exact if_pos (by omega))
  obtain⟨RY,hRY⟩:∃R,E (cp 14 pi pg) (j+1)=R:=⟨_,rfl⟩
  have HRY:=hid hRY
  have ORY:=hid (show Ok M l (j+1) RY by rw[←hRY];exact OE.out _ _ HJ.out)
  clear hRY
  rw[HRY.out]at HPR
  rw[h6]at N
  clear h6
  have a6:=F.c
  have a8:=aj.bk.c5
  have a0:=an.bk.c2
  go_wp2_with fail
  clear a6 a8 a0
  refine(N.out _ F.out).mono ?_
  rintro e bw ⟨rfl,h⟩
  have A:=hid (F.keep h)
  have J:=hid (aj.keep h)
  have y:=hid (an.keep h)
  have ar:=hid (aX.trans (Gr.quiet h))
  clear h
  have ay:=A.c
  have ax:=J.bk.c5
  have a1:=y.bk.c2
  have aB:=y.bk.f
  go_wp2_with fail
  clear ay ax a1 aB
  refine(part_any _ _ _ _ _ _ _).mono ?_
  rintro e ak ⟨rfl,o⟩
  have D:=hid (A.keep o)
  have O:=hid (J.keep o)
  have C:=hid (y.keep o)
  have a3:=hid (ar.trans (Gr.quiet o))
  clear o
  have aq:=D.c
  have a4:=O.bk.c5
  have aA:=C.bk.c2
  have aw:=C.bk.f
  go_wp2_with fail
  clear aq a4 aA aw
  refine(show Calls _ _ _ _ (Rq w0 l a cap N0 s (j+1) v ak RY) by rw[←HRY.out];exact HE.out 14 pi pg false (j+1) v ak (by decide) (by decide) (by omega) D.out).mono ?_
  rintro e K ⟨T,Z,bh,du,rfl,s9,aD,t9,bG⟩
  have a5:=hid s9
  have di:=hid (O.go aD)
  have cS:=hid (C.go aD)
  have dm:=hid (a3.trans aD)
  have ck:=hid t9
  have b1:=hid bG
  obtain⟨aM,aI,rfl,cY⟩:=t9.lies
  clear s9 t9 aD bG cY
  obtain⟨V,ag⟩:∃W,W=K.alloc (.cells #[.slice aM Z.length aI,.bool bh] 95):=⟨_,rfl⟩
  have ah:Below K.heap.size K V:=by rw[ag];exact(Below.refl _ _).alloc (Nat.le_refl _) _
  have bp:=hid (show Mq w0.heap.size K.heap.size #[.slice aM Z.length aI,.bool bh] 95 du V from Mq.of a5.out (by rw[ag];exact Bk.new _ _ _) (Nat.le_refl _))
  have cW:=hid (show V.heap.size=K.heap.size+1 by rw[ag];simp)
  have bg:=hid (a5.keep ah)
  have ca:=hid (di.keep ah)
  have aS:=hid (cS.keep ah)
  have bR:=hid (ck.out.keep ah)
  have be:=hid (dm.trans (Gr.quiet ah))
  clear ah
  have aV:=bg.c
  have aJ:=ca.bk.c5
  have aP:=aS.bk.c2
  have aH:=aS.bk.f
  have bo:=bp.bk.c2
  rw[ag]at aV aJ aP aH bo
  go_wp2_with fail
  rw[←ag]
  clear aV aJ aP aH bo ag
  have bt:=bR.lies'
  refine(over1_any cW.out 9 c ⟨#[]⟩ Z bt (wk_mono (gt_wk b1.out ORY.out) (by have:=b4.out;have:=(ok_at ORY.out).2;omega))).mono ?_
  rintro e dy ⟨T,z,r,rfl,hz,hp,bx,hr⟩
  have u1290:=Tq.of (bg.alloc (.cells #[.slice aM Z.length aI] 26)) hp hr
  rw[hz]at u1290
  have aO:=hid (show(V.alloc (.cells #[.slice aM Z.length aI] 26)).heap.size=V.heap.size+1 by simp)
  rw[aO.out]at u1290
  have c7:=hid u1290
  have ac:Below V.heap.size V dy:=((Below.refl _ _).alloc (Nat.le_refl _) _).trans (bx.mono (by simp))
  have bc:=hid (bg.keep ac)
  have ba:=hid (ca.keep ac)
  have al:=hid (aS.keep ac)
  have dc:=hid (bp.keep ac)
  have d1:=hid (bR.keep ac)
  have cq:=hid (be.trans (Gr.quiet ac))
  obtain⟨ad,U,rfl,-⟩:=u1290.lies
  clear u1290 hz hp hr bx ac bt
  have cM:=bc.c
  have cA:=ba.bk.c5
  have c9:=al.bk.c2
  have db:=al.bk.f
  have cI:=dc.bk.c2
  go_wp2
  clear cM cA c9 db cI
  obtain⟨cD,cB⟩:=(al.bk.put2 (.slice ad (makeT (nd0 9 c ⟨#[]⟩) [Z]).length U) (.bool false)).c2
  exact bodyPost_ret (v:= .agg #[.slice ad (makeT (nd0 9 c ⟨#[]⟩) [Z]).length U,.bool false]) (by simp[results,Tryz.results62,go_sem,cD,cB]) rfl (by rw[HPR.out];exact rq_end HLT.out (by first|exact bc.out|(simp only[at_over1,bd_over1,at_over2,bd_over2];exact bc.out)) cq.out al.out c7.out (by exact Nat.le_succ _) (by exact Nat.lt_succ_of_lt aS.bk.lt) (gt_over1 (Nat.lt_succ_self j) b1.out ORY.out))
 case neg=>
  by_cases h68:kd l (j+1)=68
  case pos=>
   have HPR:=hid (show preR E l pi pg j=over1 9 c (E (cp 14 pi pg) (j+1)) by unfold preR;rw[HCC.out];exact if_pos (by omega))
   obtain⟨RY,hRY⟩:∃R,E (cp 14 pi pg) (j+1)=R:=⟨_,rfl⟩
   have HRY:=hid hRY
   have ORY:=hid (show Ok M l (j+1) RY by rw[←hRY];exact OE.out _ _ HJ.out)
   clear hRY
   rw[HRY.out]at HPR
   rw[h68]at N
   clear h6 h68
   have a6:=F.c
   have a8:=aj.bk.c5
   have a0:=an.bk.c2
   go_wp2_with fail
   clear a6 a8 a0
   refine(N.out _ F.out).mono ?_
   rintro e bw ⟨rfl,h⟩
   have A:=hid (F.keep h)
   have J:=hid (aj.keep h)
   have y:=hid (an.keep h)
   have ar:=hid (aX.trans (Gr.quiet h))
   clear h
   have ay:=A.c
   have ax:=J.bk.c5
   have a1:=y.bk.c2
   have aB:=y.bk.f
   go_wp2_with fail
   clear ay ax a1 aB
   refine(N.out _ A.out).mono ?_
   rintro e ak ⟨rfl,o⟩
   have D:=hid (A.keep o)
   have O:=hid (J.keep o)
   have C:=hid (y.keep o)
   have a3:=hid (ar.trans (Gr.quiet o))
   clear o
   have aq:=D.c
   have a4:=O.bk.c5
   have aA:=C.bk.c2
   have aw:=C.bk.f
   go_wp2_with fail
   clear aq a4 aA aw
   refine(part_any _ _ _ _ _ _ _).mono ?_
   rintro e K ⟨rfl,az⟩
   have a5:=hid (D.keep az)
   have bY:=hid (O.keep az)
   have aY:=hid (C.keep az)
   have cO:=hid (a3.trans (Gr.quiet az))
   clear az
   have cV:=a5.c
   have dd:=bY.bk.c5
   have dl:=aY.bk.c2
   have dx:=aY.bk.f
   go_wp2_with fail
   clear cV dd dl dx
   refine(show Calls _ _ _ _ (Rq w0 l a cap N0 s (j+1) v K RY) by rw[←HRY.out];exact HE.out 14 pi pg false (j+1) v K (by decide) (by decide) (by omega) a5.out).mono ?_
   rintro e a2 ⟨T,ae,bE,dn,rfl,s9,aF,t9,bW⟩
   have b2:=hid s9
   have cZ:=hid (bY.go aF)
   have cG:=hid (aY.go aF)
   have cC:=hid (cO.trans aF)
   have ci:=hid t9
   have bS:=hid bW
   obtain⟨aT,aG,rfl,co⟩:=t9.lies
   clear s9 t9 aF bW co
   obtain⟨aa,ai⟩:∃W,W=a2.alloc (.cells #[.slice aT ae.length aG,.bool bE] 95):=⟨_,rfl⟩
   have am:Below a2.heap.size a2 aa:=by rw[ai];exact(Below.refl _ _).alloc (Nat.le_refl _) _
   have bs:=hid (show Mq w0.heap.size a2.heap.size #[.slice aT ae.length aG,.bool bE] 95 dn aa from Mq.of b2.out (by rw[ai];exact Bk.new _ _ _) (Nat.le_refl _))
   have dw:=hid (show aa.heap.size=a2.heap.size+1 by rw[ai];simp)
   have aW:=hid (b2.keep am)
   have br:=hid (cZ.keep am)
   have aR:=hid (cG.keep am)
   have b8:=hid (ci.out.keep am)
   have c8:=hid (cC.trans (Gr.quiet am))
   clear am
   have cb:=aW.c
   have bO:=br.bk.c5
   have bL:=aR.bk.c2
   have bX:=aR.bk.f
   have b3:=bs.bk.c2
   rw[ai]at cb bO bL bX b3
   go_wp2_with fail
   rw[←ai]
   clear cb bO bL bX b3 ai
   have bK:=b8.lies'
   refine(over1_any dw.out 9 c ⟨#[]⟩ ae bK (wk_mono (gt_wk bS.out ORY.out) (by have:=b4.out;have:=(ok_at ORY.out).2;omega))).mono ?_
   rintro e cx ⟨T,z,r,rfl,hz,hp,bN,hr⟩
   have u1480:=Tq.of (aW.alloc (.cells #[.slice aT ae.length aG] 26)) hp hr
   rw[hz]at u1480
   have cw:=hid (show(aa.alloc (.cells #[.slice aT ae.length aG] 26)).heap.size=aa.heap.size+1 by simp)
   rw[cw.out]at u1480
   have cF:=hid u1480
   have Q:Below aa.heap.size aa cx:=((Below.refl _ _).alloc (Nat.le_refl _) _).trans (bN.mono (by simp))
   have aZ:=hid (aW.keep Q)
   have ct:=hid (br.keep Q)
   have aU:=hid (aR.keep Q)
   have cE:=hid (bs.keep Q)
   have d4:=hid (b8.keep Q)
   have c6:=hid (c8.trans (Gr.quiet Q))
   obtain⟨bA,cc,rfl,-⟩:=u1480.lies
   clear u1480 hz hp hr bN Q bK
   have dr:=aZ.c
   have cj:=ct.bk.c5
   have cQ:=aU.bk.c2
   have cz:=aU.bk.f
   have c0:=cE.bk.c2
   go_wp2
   clear dr cj cQ cz c0
   obtain⟨dk,df⟩:=(aU.bk.put2 (.slice bA (makeT (nd0 9 c ⟨#[]⟩) [ae]).length cc) (.bool false)).c2
   exact bodyPost_ret (v:= .agg #[.slice bA (makeT (nd0 9 c ⟨#[]⟩) [ae]).length cc,.bool false]) (by simp[results,Tryz.results62,go_sem,dk,df]) rfl (by rw[HPR.out];exact rq_end HLT.out (by first|exact aZ.out|(simp only[at_over1,bd_over1,at_over2,bd_over2];exact aZ.out)) c6.out aU.out cF.out (by exact Nat.le_succ _) (by exact Nat.lt_succ_of_lt aR.bk.lt) (gt_over1 (Nat.lt_succ_self j) bS.out ORY.out))
  case neg=>
   have HPR:=hid (show preR E l pi pg j= .bad (j+1) by unfold preR;exact if_neg (by omega))
   obtain⟨c2,bn⟩:∃c2,kd l (j+1)=c2:=⟨_,rfl⟩
   rw[bn]at N h6 h68
   obtain⟨q1,q2⟩:=ne_facts h6
   obtain⟨q3,q4⟩:=ne_facts h68
   clear h6 h68 bn
   have a6:=F.c
   have a8:=aj.bk.c5
   have a0:=an.bk.c2
   go_wp2_with fail
   clear a6 a8 a0
   refine(N.out _ F.out).mono ?_
   rintro e bw ⟨rfl,h⟩
   have A:=hid (F.keep h)
   have J:=hid (aj.keep h)
   have y:=hid (an.keep h)
   have ar:=hid (aX.trans (Gr.quiet h))
   clear h
   have ay:=A.c
   have ax:=J.bk.c5
   have a1:=y.bk.c2
   have aB:=y.bk.f
   go_wp2_with fail
   clear ay ax a1 aB
   refine(N.out _ A.out).mono ?_
   rintro e ak ⟨rfl,o⟩
   have D:=hid (A.keep o)
   have O:=hid (J.keep o)
   have C:=hid (y.keep o)
   have a3:=hid (ar.trans (Gr.quiet o))
   clear o
   have aq:=D.c
   have a4:=O.bk.c5
   have aA:=C.bk.c2
   have aw:=D.f
   obtain⟨b0,aC⟩:∃W,W=ak.setCell ⟨w0.heap.size,2,none⟩ (.bool true):=⟨_,rfl⟩
   have bB:=hid (show Sq w0 l a cap N0 s (j+1) true v b0 by rw[aC];exact D.bad)
   have aL:Gr (X0 w0.heap.size) v v ak b0:=by rw[aC];exact Gr.box rfl 2 _
   have bQ:=hid (O.go aL)
   have b9:=hid (C.go aL)
   have ds:=hid (a3.trans aL)
   clear aL
   have bH:=bB.c
   have bZ:=bQ.bk.c5
   have cd:=b9.bk.c2
   rw[aC]at bH bZ cd
   go_wp2_with fail
   rw[←aC]
   clear aq a4 aA aw bH bZ cd aC
   refine(part_any _ _ _ _ _ _ _).mono ?_
   rintro e bF ⟨rfl,au⟩
   have bT:=hid (bB.keep au)
   have cf:=hid (bQ.keep au)
   have bf:=hid (b9.keep au)
   have be:=hid (ds.trans (Gr.quiet au))
   clear au
   have aV:=bT.c
   have aJ:=cf.bk.c5
   have aP:=bf.bk.c2
   have aH:=bf.bk.f
   go_wp2_with fail
   clear aV aJ aP aH
   refine(show Calls _ _ _ _ (Rq w0 l a cap N0 s (j+1) v bF (.bad (j+1)))from HE.out 14 pi pg true (j+1) v bF (by decide) (by decide) (by omega) bT.out).mono ?_
   rintro e a7 ⟨T,G,aO,dh,rfl,s9,aN,t9,ch⟩
   have bU:=hid s9
   have ba:=hid (cf.go aN)
   have al:=hid (bf.go aN)
   have cn:=hid (be.trans aN)
   have dt:=hid t9
   have bu:=hid ch
   obtain⟨ad,U,rfl,cT⟩:=t9.lies
   clear s9 t9 aN ch cT
   obtain⟨af,ap⟩:∃W,W=a7.alloc (.cells #[.slice ad G.length U,.bool aO] 95):=⟨_,rfl⟩
   have ao:Below a7.heap.size a7 af:=by rw[ap];exact(Below.refl _ _).alloc (Nat.le_refl _) _
   have cg:=hid (show Mq w0.heap.size a7.heap.size #[.slice ad G.length U,.bool aO] 95 dh af from Mq.of bU.out (by rw[ap];exact Bk.new _ _ _) (Nat.le_refl _))
   have dv:=hid (show af.heap.size=a7.heap.size+1 by rw[ap];simp)
   have bb:=hid (bU.keep ao)
   have bM:=hid (ba.keep ao)
   have aQ:=hid (al.keep ao)
   have bV:=hid (dt.out.keep ao)
   have cl:=hid (cn.trans (Gr.quiet ao))
   clear ao
   have ce:=bb.c
   have bP:=bM.bk.c5
   have bI:=aQ.bk.c2
   have bi:=aQ.bk.f
   have b6:=cg.bk.c2
   rw[ap]at ce bP bI bi b6
   go_wp2_with fail
   rw[←ap]
   clear ce bP bI bi b6 ap
   have bz:=bV.lies'
   refine(over1_any dv.out 9 c ⟨#[]⟩ G bz (wk_mono (show Wk (2*(j+1-(j+1))) G from bu.out) (by omega))).mono ?_
   rintro e cL ⟨T,z,r,rfl,hz,hp,bv,hr⟩
   have u1660:=Tq.of (bb.alloc (.cells #[.slice ad G.length U] 26)) hp hr
   rw[hz]at u1660
   have cJ:=hid (show(af.alloc (.cells #[.slice ad G.length U] 26)).heap.size=af.heap.size+1 by simp)
   rw[cJ.out]at u1660
   have cR:=hid u1660
   have ab:Below af.heap.size af cL:=((Below.refl _ _).alloc (Nat.le_refl _) _).trans (bv.mono (by simp))
   have bJ:=hid (bb.keep ab)
   have de:=hid (bM.keep ab)
   have aK:=hid (aQ.keep ab)
   have cy:=hid (cg.keep ab)
   have d3:=hid (bV.keep ab)
   have cm:=hid (cl.trans (Gr.quiet ab))
   obtain⟨bj,b5,rfl,-⟩:=u1660.lies
   clear u1660 hz hp hr bv ab bz
   have cH:=bJ.c
   have da:=de.bk.c5
   have cr:=aK.bk.c2
   have dp:=aK.bk.f
   have cU:=cy.bk.c2
   go_wp2
   clear cH da cr dp cU
   obtain⟨dj,cK⟩:=(aK.bk.put2 (.slice bj (makeT (nd0 9 c ⟨#[]⟩) [G]).length b5) (.bool false)).c2
   exact bodyPost_ret (v:= .agg #[.slice bj (makeT (nd0 9 c ⟨#[]⟩) [G]).length b5,.bool false]) (by simp[results,Tryz.results62,go_sem,dj,cK]) rfl (by rw[HPR.out];exact rq_end HLT.out (show Sq w0 l a cap N0 s (j+1) true _ _ from bJ.out) cm.out aK.out cR.out (by exact Nat.le_succ _) (by exact Nat.lt_succ_of_lt aQ.bk.lt) (wk_mono (wk_one (show Wk (2*(j+1-(j+1))) G from bu.out)) (by omega)))
def unaryR(E:Ps→Nat→R)(l:List Tk)(i g:Bool)(j:Nat)(RP:R):R:=if kd l j=55∨kd l j=56∨kd l j=61 then over1 11 (kd l j) (E (cp 11 i g) (j+1))else RP
set_option maxHeartbeats 6400000 in
theorem unary_any(pl:Int)(pd pi pg psg:Bool)(w:World)(hst:Sq w0 l a cap N0 s j false v w)(hc:tk.Lies w0.heap.size w0 a l)(hl:l.length≤6000)(RP:R)(hP:∀(v:Value) (w:World),Sq w0 l a cap N0 s j false v w→Calls Tryz.prog 115 #[.pointer (some ⟨w0.heap.size,0,none⟩),.agg #[.int .i64 pl,.bool pd,.bool pi,.bool pg,.bool psg]] w (Rq w0 l a cap N0 s j v w RP))(hE:CallS w0 l a cap N0 s E (j+1))(oE:∀p i,i≤l.length→Ok M l i (E p i)):
  Calls Tryz.prog 114 #[.pointer (some ⟨w0.heap.size,0,none⟩),.agg #[.int .i64 pl,.bool pd,.bool pi,.bool pg,.bool psg]] w (Rq w0 l a cap N0 s j v w (unaryR E l pi pg j RP)):=by
 have HC:=hid hc
 have HL:=hid (show l.length≤100000 by omega)
 have bl:=hid hl
 have HE:=hid hE
 have OE:=hid oE
 have HP:=hid hP
 obtain⟨W,hW⟩:∃W,W=(w.alloc (.cells #[.int .i64 pl,.bool pd,.bool pi,.bool pg,.bool psg] 44)).alloc (.cells #[.slice none 0 0,.bool false] 95):=⟨_,rfl⟩
 have hB:Below w.heap.size w W:=by rw[hW];exact((Below.refl _ _).alloc (Nat.le_refl _) _).alloc (by simp) _
 have P0:=hid (show Mq w0.heap.size w.heap.size #[.int .i64 pl,.bool pd,.bool pi,.bool pg,.bool psg] 44 v W from Mq.of hst (by rw[hW];exact(Bk.new _ _ _).alloc _) (Nat.le_refl _))
 have R0:=hid (show Mq w0.heap.size (w.heap.size+1) #[.slice none 0 0,.bool false] 95 v W from Mq.of hst (by rw[hW];have:=Bk.new (w.alloc (.cells #[.int .i64 pl,.bool pd,.bool pi,.bool pg,.bool psg] 44)) #[.slice none 0 0,.bool false] 95;simpa using this) (Nat.le_succ _))
 have S0:=hid (hst.keep hB)
 have G0:=hid (show Gr (X0 w0.heap.size) v v w W from Gr.quiet hB)
 have HLT:=hid hst.lt
 have HBS:=hid hB.size
 have HJN:=hid hst.jn
 have HWS:=hid (show W.heap.size=w.heap.size+2 by rw[hW];simp)
 clear hB hst
 have HK:=hid (kind_any _ S0.out HC.out HL.out)
 clear hE oE hc hl hP
 by_cases hs:kd l j=55∨kd l j=56∨kd l j=61
 case pos=>
  have HPR:=hid (show unaryR E l pi pg j RP=over1 11 (kd l j) (E (cp 11 pi pg) (j+1))from if_pos hs)
  have HJ:=hid (kd_lt (l:=l) (i:=j) (by omega))
  obtain⟨RY,hRY⟩:∃R,E (cp 11 pi pg) (j+1)=R:=⟨_,rfl⟩
  have HRY:=hid hRY
  have ORY:=hid (show Ok M l (j+1) RY by rw[←hRY];exact OE.out _ _ HJ.out)
  clear hRY
  rw[HRY.out]at HPR
  obtain⟨c,hcc⟩:∃c,kd l j=c:=⟨_,rfl⟩
  rw[hcc]at HPR HK hs
  have HCC:=hid hcc
  clear hcc
  have HV:=hid hs
  have hcond:(c==56||c==55||c==61)=true:=by rcases hs with rfl|rfl|rfl<;>rfl
  clear hs
  obtain⟨c1,c2,c3,c4⟩:=S0.c
  have m5:=P0.bk.c5
  have a4:=R0.bk.c2
  have a5:=R0.bk.f
  rw[hW]at c1 c2 c3 c4 m5 a4 a5
  rcases HV.out with hx|hx|hx
  ·subst hx
   clear hcond
   have aW:True:=trivial
   clear aW
   go_enter Tryz.func114,Tryz.ntmps114
   go_wp2_with fail
   rw[←hW]
   clear c1 c2 c3 c4 m5 a4 a5 hW
   refine(HK.out).mono ?_
   rintro e bg ⟨rfl,y⟩
   have Z:=hid (S0.keep y)
   have aa:=hid (P0.keep y)
   have V:=hid (R0.keep y)
   have a8:=hid (G0.trans (Gr.quiet y))
   clear y
   have a7:=Z.c
   have a9:=aa.bk.c5
   have a6:=V.bk.c2
   go_wp2_with fail
   clear a7 a9 a6
   refine(take_yes 55 _ Z.out HC.out HL.out (by decide) (by decide) HCC.out).mono ?_
   rintro e bj ⟨rfl,ak,J⟩
   have al:=hid ak
   have aq:=hid (aa.go J)
   have ay:=hid (V.go J)
   have aI:=hid (a8.trans J)
   clear ak J
   have aV:=al.c
   have aY:=aq.bk.c5
   have aP:=ay.bk.c2
   go_wp2_with fail
   clear aV aY aP
   refine(part_any _ _ _ _ _ _ _).mono ?_
   rintro e am ⟨rfl,F⟩
   have aw:=hid (al.keep F)
   have ap:=hid (aq.keep F)
   have ab:=hid (ay.keep F)
   have aG:=hid (aI.trans (Gr.quiet F))
   clear F
   have aL:=aw.c
   have aJ:=ap.bk.c5
   have aQ:=ab.bk.c2
   have be:=ab.bk.f
   go_wp2_with fail
   clear aL aJ aQ be
   refine(show Calls _ _ _ _ (Rq w0 l a cap N0 s (j+1) v am RY) by rw[←HRY.out];exact HE.out 11 pi pg false (j+1) v am (by decide) (by decide) (by omega) aw.out).mono ?_
   rintro e G ⟨T,h,af,aM,rfl,s9,N,t9,an⟩
   have aj:=hid s9
   have aO:=hid (ap.go N)
   have aS:=hid (ab.go N)
   have aK:=hid (aG.trans N)
   have aR:=hid t9
   have ae:=hid an
   obtain⟨K,O,rfl,aZ⟩:=t9.lies
   clear s9 t9 N an aZ
   obtain⟨A,C⟩:∃W,W=G.alloc (.cells #[.slice K h.length O,.bool af] 95):=⟨_,rfl⟩
   have D:Below G.heap.size G A:=by rw[C];exact(Below.refl _ _).alloc (Nat.le_refl _) _
   have ar:=hid (show Mq w0.heap.size G.heap.size #[.slice K h.length O,.bool af] 95 aM A from Mq.of aj.out (by rw[C];exact Bk.new _ _ _) (Nat.le_refl _))
   have ba:=hid (show A.heap.size=G.heap.size+1 by rw[C];simp)
   have ac:=hid (aj.keep D)
   have a0:=hid (aO.keep D)
   have U:=hid (aS.keep D)
   have a3:=hid (aR.out.keep D)
   have aB:=hid (aK.trans (Gr.quiet D))
   clear D
   have a1:=ac.c
   have au:=a0.bk.c5
   have ah:=U.bk.c2
   have ao:=U.bk.f
   have ag:=ar.bk.c2
   rw[C]at a1 au ah ao ag
   go_wp2_with fail
   rw[←C]
   clear a1 au ah ao ag C
   have ax:=a3.lies'
   refine(over1_any ba.out 11 55 ⟨#[]⟩ h ax (wk_mono (gt_wk ae.out ORY.out) (by have:=bl.out;have:=(ok_at ORY.out).2;omega))).mono ?_
   rintro e aN ⟨T,z,r,rfl,hz,hp,az,hr⟩
   have u1100:=Tq.of (ac.alloc (.cells #[.slice K h.length O] 26)) hp hr
   rw[hz]at u1100
   have bf:=hid (show(A.alloc (.cells #[.slice K h.length O] 26)).heap.size=A.heap.size+1 by simp)
   rw[bf.out]at u1100
   have aA:=hid u1100
   have o:Below A.heap.size A aN:=((Below.refl _ _).alloc (Nat.le_refl _) _).trans (az.mono (by simp))
   have ad:=hid (ac.keep o)
   have bb:=hid (a0.keep o)
   have Q:=hid (U.keep o)
   have aX:=hid (ar.keep o)
   have bs:=hid (a3.keep o)
   have aD:=hid (aB.trans (Gr.quiet o))
   obtain⟨ai,a2,rfl,-⟩:=u1100.lies
   clear u1100 hz hp hr az o ax
   have aC:=ad.c
   have bc:=bb.bk.c5
   have aT:=Q.bk.c2
   have aE:=Q.bk.f
   have aU:=aX.bk.c2
   go_wp2
   clear aC bc aT aE aU
   obtain⟨aH,aF⟩:=(Q.bk.put2 (.slice ai (makeT (nd0 11 55 ⟨#[]⟩) [h]).length a2) (.bool false)).c2
   exact bodyPost_ret (v:= .agg #[.slice ai (makeT (nd0 11 55 ⟨#[]⟩) [h]).length a2,.bool false]) (by simp[results,Tryz.results114,go_sem,aH,aF]) rfl (by rw[HPR.out];exact rq_end HLT.out (by first|exact ad.out|(simp only[at_over1,bd_over1,at_over2,bd_over2];exact ad.out)) aD.out Q.out aA.out (by exact Nat.le_succ _) (by exact Nat.lt_succ_of_lt U.bk.lt) (gt_over1 (Nat.lt_succ_self j) ae.out ORY.out))
  ·subst hx
   clear hcond
   have aW:True:=trivial
   clear aW
   go_enter Tryz.func114,Tryz.ntmps114
   go_wp2_with fail
   rw[←hW]
   clear c1 c2 c3 c4 m5 a4 a5 hW
   refine(HK.out).mono ?_
   rintro e bg ⟨rfl,y⟩
   have Z:=hid (S0.keep y)
   have aa:=hid (P0.keep y)
   have V:=hid (R0.keep y)
   have a8:=hid (G0.trans (Gr.quiet y))
   clear y
   have a7:=Z.c
   have a9:=aa.bk.c5
   have a6:=V.bk.c2
   go_wp2_with fail
   clear a7 a9 a6
   refine(take_yes 56 _ Z.out HC.out HL.out (by decide) (by decide) HCC.out).mono ?_
   rintro e bj ⟨rfl,ak,J⟩
   have al:=hid ak
   have aq:=hid (aa.go J)
   have ay:=hid (V.go J)
   have aI:=hid (a8.trans J)
   clear ak J
   have aV:=al.c
   have aY:=aq.bk.c5
   have aP:=ay.bk.c2
   go_wp2_with fail
   clear aV aY aP
   refine(part_any _ _ _ _ _ _ _).mono ?_
   rintro e am ⟨rfl,F⟩
   have aw:=hid (al.keep F)
   have ap:=hid (aq.keep F)
   have ab:=hid (ay.keep F)
   have aG:=hid (aI.trans (Gr.quiet F))
   clear F
   have aL:=aw.c
   have aJ:=ap.bk.c5
   have aQ:=ab.bk.c2
   have be:=ab.bk.f
   go_wp2_with fail
   clear aL aJ aQ be
   refine(show Calls _ _ _ _ (Rq w0 l a cap N0 s (j+1) v am RY) by rw[←HRY.out];exact HE.out 11 pi pg false (j+1) v am (by decide) (by decide) (by omega) aw.out).mono ?_
   rintro e G ⟨T,h,af,aM,rfl,s9,N,t9,an⟩
   have aj:=hid s9
   have aO:=hid (ap.go N)
   have aS:=hid (ab.go N)
   have aK:=hid (aG.trans N)
   have aR:=hid t9
   have ae:=hid an
   obtain⟨K,O,rfl,aZ⟩:=t9.lies
   clear s9 t9 N an aZ
   obtain⟨A,C⟩:∃W,W=G.alloc (.cells #[.slice K h.length O,.bool af] 95):=⟨_,rfl⟩
   have D:Below G.heap.size G A:=by rw[C];exact(Below.refl _ _).alloc (Nat.le_refl _) _
   have ar:=hid (show Mq w0.heap.size G.heap.size #[.slice K h.length O,.bool af] 95 aM A from Mq.of aj.out (by rw[C];exact Bk.new _ _ _) (Nat.le_refl _))
   have ba:=hid (show A.heap.size=G.heap.size+1 by rw[C];simp)
   have ac:=hid (aj.keep D)
   have a0:=hid (aO.keep D)
   have U:=hid (aS.keep D)
   have a3:=hid (aR.out.keep D)
   have aB:=hid (aK.trans (Gr.quiet D))
   clear D
   have a1:=ac.c
   have au:=a0.bk.c5
   have ah:=U.bk.c2
   have ao:=U.bk.f
   have ag:=ar.bk.c2
   rw[C]at a1 au ah ao ag
   go_wp2_with fail
   rw[←C]
   clear a1 au ah ao ag C
   have ax:=a3.lies'
   refine(over1_any ba.out 11 56 ⟨#[]⟩ h ax (wk_mono (gt_wk ae.out ORY.out) (by have:=bl.out;have:=(ok_at ORY.out).2;omega))).mono ?_
   rintro e aN ⟨T,z,r,rfl,hz,hp,az,hr⟩
   have u1100:=Tq.of (ac.alloc (.cells #[.slice K h.length O] 26)) hp hr
   rw[hz]at u1100
   have bf:=hid (show(A.alloc (.cells #[.slice K h.length O] 26)).heap.size=A.heap.size+1 by simp)
   rw[bf.out]at u1100
   have aA:=hid u1100
   have o:Below A.heap.size A aN:=((Below.refl _ _).alloc (Nat.le_refl _) _).trans (az.mono (by simp))
   have ad:=hid (ac.keep o)
   have bb:=hid (a0.keep o)
   have Q:=hid (U.keep o)
   have aX:=hid (ar.keep o)
   have bs:=hid (a3.keep o)
   have aD:=hid (aB.trans (Gr.quiet o))
   obtain⟨ai,a2,rfl,-⟩:=u1100.lies
   clear u1100 hz hp hr az o ax
   have aC:=ad.c
   have bc:=bb.bk.c5
   have aT:=Q.bk.c2
   have aE:=Q.bk.f
   have aU:=aX.bk.c2
   go_wp2
   clear aC bc aT aE aU
   obtain⟨aH,aF⟩:=(Q.bk.put2 (.slice ai (makeT (nd0 11 56 ⟨#[]⟩) [h]).length a2) (.bool false)).c2
   exact bodyPost_ret (v:= .agg #[.slice ai (makeT (nd0 11 56 ⟨#[]⟩) [h]).length a2,.bool false]) (by simp[results,Tryz.results114,go_sem,aH,aF]) rfl (by rw[HPR.out];exact rq_end HLT.out (by first|exact ad.out|(simp only[at_over1,bd_over1,at_over2,bd_over2];exact ad.out)) aD.out Q.out aA.out (by exact Nat.le_succ _) (by exact Nat.lt_succ_of_lt U.bk.lt) (gt_over1 (Nat.lt_succ_self j) ae.out ORY.out))
  ·subst hx
   clear hcond
   have aW:True:=trivial
   clear aW
   go_enter Tryz.func114,Tryz.ntmps114
   go_wp2_with fail
   rw[←hW]
   clear c1 c2 c3 c4 m5 a4 a5 hW
   refine(HK.out).mono ?_
   rintro e bg ⟨rfl,y⟩
   have Z:=hid (S0.keep y)
   have aa:=hid (P0.keep y)
   have V:=hid (R0.keep y)
   have a8:=hid (G0.trans (Gr.quiet y))
   clear y
   have a7:=Z.c
   have a9:=aa.bk.c5
   have a6:=V.bk.c2
   go_wp2_with fail
   clear a7 a9 a6
   refine(take_yes 61 _ Z.out HC.out HL.out (by decide) (by decide) HCC.out).mono ?_
   rintro e bj ⟨rfl,ak,J⟩
   have al:=hid ak
   have aq:=hid (aa.go J)
   have ay:=hid (V.go J)
   have aI:=hid (a8.trans J)
   clear ak J
   have aV:=al.c
   have aY:=aq.bk.c5
   have aP:=ay.bk.c2
   go_wp2_with fail
   clear aV aY aP
   refine(part_any _ _ _ _ _ _ _).mono ?_
   rintro e am ⟨rfl,F⟩
   have aw:=hid (al.keep F)
   have ap:=hid (aq.keep F)
   have ab:=hid (ay.keep F)
   have aG:=hid (aI.trans (Gr.quiet F))
   clear F
   have aL:=aw.c
   have aJ:=ap.bk.c5
   have aQ:=ab.bk.c2
   have be:=ab.bk.f
   go_wp2_with fail
   clear aL aJ aQ be
   refine(show Calls _ _ _ _ (Rq w0 l a cap N0 s (j+1) v am RY) by rw[←HRY.out];exact HE.out 11 pi pg false (j+1) v am (by decide) (by decide) (by omega) aw.out).mono ?_
   rintro e G ⟨T,h,af,aM,rfl,s9,N,t9,an⟩
   have aj:=hid s9
   have aO:=hid (ap.go N)
   have aS:=hid (ab.go N)
   have aK:=hid (aG.trans N)
   have aR:=hid t9
   have ae:=hid an
   obtain⟨K,O,rfl,aZ⟩:=t9.lies
   clear s9 t9 N an aZ
   obtain⟨A,C⟩:∃W,W=G.alloc (.cells #[.slice K h.length O,.bool af] 95):=⟨_,rfl⟩
   have D:Below G.heap.size G A:=by rw[C];exact(Below.refl _ _).alloc (Nat.le_refl _) _
   have ar:=hid (show Mq w0.heap.size G.heap.size #[.slice K h.length O,.bool af] 95 aM A from Mq.of aj.out (by rw[C];exact Bk.new _ _ _) (Nat.le_refl _))
   have ba:=hid (show A.heap.size=G.heap.size+1 by rw[C];simp)
   have ac:=hid (aj.keep D)
   have a0:=hid (aO.keep D)
   have U:=hid (aS.keep D)
   have a3:=hid (aR.out.keep D)
   have aB:=hid (aK.trans (Gr.quiet D))
   clear D
   have a1:=ac.c
   have au:=a0.bk.c5
   have ah:=U.bk.c2
   have ao:=U.bk.f
   have ag:=ar.bk.c2
   rw[C]at a1 au ah ao ag
   go_wp2_with fail
   rw[←C]
   clear a1 au ah ao ag C
   have ax:=a3.lies'
   refine(over1_any ba.out 11 61 ⟨#[]⟩ h ax (wk_mono (gt_wk ae.out ORY.out) (by have:=bl.out;have:=(ok_at ORY.out).2;omega))).mono ?_
   rintro e aN ⟨T,z,r,rfl,hz,hp,az,hr⟩
   have u1100:=Tq.of (ac.alloc (.cells #[.slice K h.length O] 26)) hp hr
   rw[hz]at u1100
   have bf:=hid (show(A.alloc (.cells #[.slice K h.length O] 26)).heap.size=A.heap.size+1 by simp)
   rw[bf.out]at u1100
   have aA:=hid u1100
   have o:Below A.heap.size A aN:=((Below.refl _ _).alloc (Nat.le_refl _) _).trans (az.mono (by simp))
   have ad:=hid (ac.keep o)
   have bb:=hid (a0.keep o)
   have Q:=hid (U.keep o)
   have aX:=hid (ar.keep o)
   have bs:=hid (a3.keep o)
   have aD:=hid (aB.trans (Gr.quiet o))
   obtain⟨ai,a2,rfl,-⟩:=u1100.lies
   clear u1100 hz hp hr az o ax
   have aC:=ad.c
   have bc:=bb.bk.c5
   have aT:=Q.bk.c2
   have aE:=Q.bk.f
   have aU:=aX.bk.c2
   go_wp2
   clear aC bc aT aE aU
   obtain⟨aH,aF⟩:=(Q.bk.put2 (.slice ai (makeT (nd0 11 61 ⟨#[]⟩) [h]).length a2) (.bool false)).c2
   exact bodyPost_ret (v:= .agg #[.slice ai (makeT (nd0 11 61 ⟨#[]⟩) [h]).length a2,.bool false]) (by simp[results,Tryz.results114,go_sem,aH,aF]) rfl (by rw[HPR.out];exact rq_end HLT.out (by first|exact ad.out|(simp only[at_over1,bd_over1,at_over2,bd_over2];exact ad.out)) aD.out Q.out aA.out (by exact Nat.le_succ _) (by exact Nat.lt_succ_of_lt U.bk.lt) (gt_over1 (Nat.lt_succ_self j) ae.out ORY.out))
 case neg=>
  have HPR:=hid (show unaryR E l pi pg j RP=RP from if_neg hs)
  obtain⟨c,hcc⟩:∃c,kd l j=c:=⟨_,rfl⟩
  rw[hcc]at HK hs
  have q1:(c==55)=false:=by rw[beq_eq_false_iff_ne];omega
  have q2:(c==56)=false:=by rw[beq_eq_false_iff_ne];omega
  have q3:(c==61)=false:=by rw[beq_eq_false_iff_ne];omega
  clear hs hcc
  obtain⟨c1,c2,c3,c4⟩:=S0.c
  have m5:=P0.bk.c5
  have a4:=R0.bk.c2
  have a5:=R0.bk.f
  rw[hW]at c1 c2 c3 c4 m5 a4 a5
  go_enter Tryz.func114,Tryz.ntmps114
  go_wp2_with fail
  rw[←hW]
  clear c1 c2 c3 c4 m5 a4 a5 hW
  refine(HK.out).mono ?_
  rintro e bg ⟨rfl,y⟩
  have Z:=hid (S0.keep y)
  have aa:=hid (P0.keep y)
  have V:=hid (R0.keep y)
  have a8:=hid (G0.trans (Gr.quiet y))
  clear y
  have a7:=Z.c
  have a9:=aa.bk.c5
  have a6:=V.bk.c2
  go_wp2_with fail
  clear a7 a9 a6
  refine(HP.out v bg Z.out).mono ?_
  rintro e bj ⟨T,bm,bo,b5,rfl,s9,bi,t9,bq⟩
  have bn:=hid s9
  have b3:=hid (aa.go bi)
  have bh:=hid (V.go bi)
  have bw:=hid (a8.trans bi)
  have b1:=hid t9
  have b2:=hid bq
  obtain⟨br,bp,rfl,b0⟩:=t9.lies
  clear s9 t9 bi bq b0
  have bx:=bn.c
  have bv:=b3.bk.c5
  have bz:=bh.bk.c2
  have b4:=bh.bk.f
  go_wp2
  clear bx bv bz b4
  obtain⟨bu,bt⟩:=(bh.bk.put2 (.slice br bm.length bp) (.bool bo)).c2
  exact bodyPost_ret (v:= .agg #[.slice br bm.length bp,.bool bo]) (by simp[results,Tryz.results114,go_sem,bu,bt]) rfl (by rw[HPR.out];exact rq_end HLT.out bn.out bw.out bh.out b1.out (by exact Nat.le_succ _) (by exact V.bk.lt) (b2.out))
end
end Go.Proofs.YtebjmdpkobhcbaaGreatDoor.qs

namespace Go.Proofs.YtebjmdpkobhcbaaGreatDoor.qs
open Lib (hid)
open Go.ChangeShapes Go.WideShapes Go.ChangeAt Go.RowKit
open tk (Tk)
open nd (Nd PT KidV makeT)
open ps (Ps posOk)
open pe
open rt (isLval)
open operand (begins)
open lv (opLevel)
open pr (Bk Gr X0 below_drewN eq_facts ne_facts fld_k fld_s)
set_option linter.unusedVariables false
set_option linter.unusedSimpArgs false
set_option maxRecDepth 20000
section
variable {w0:World} {l:List Tk} {a:Option Addr} {cap:Nat} {N0:List Tk} {s j:Nat} {v:Value} {E:Ps→Nat→R} {M:Nat}
def incr2R(l:List Tk):R→R
 | .bad m=> .bad m
 | .ok lv tg t m=>if(isInc (kd l m)&&tg)=true then fin 10 (kd l m) ⟨#[]⟩ [t] (m+1)else .ok lv tg t m
def incrR(E:Ps→Nat→R)(l:List Tk)(i g:Bool)(j:Nat)(RX:R):R:=if isInc (kd l j)=true then preR E l i g j else incr2R l RX
set_option maxHeartbeats 6400000 in
theorem incr_any(pl:Int)(pd pi pg psg:Bool)(w:World)(hst:Sq w0 l a cap N0 s j false v w)(hc:tk.Lies w0.heap.size w0 a l)(hl:l.length≤6000)(RX:R)(hX:∀(v:Value) (w:World),Sq w0 l a cap N0 s j false v w→Calls Tryz.prog 63 #[.pointer (some ⟨w0.heap.size,0,none⟩),.agg #[.int .i64 14,.bool false,.bool pi,.bool pg,.bool false]] w (Rq w0 l a cap N0 s j v w RX))(oX:Ok M l j RX)(hE:CallS w0 l a cap N0 s E (j+1))(oE:∀p i,i≤l.length→Ok M l i (E p i)):
  Calls Tryz.prog 116 #[.pointer (some ⟨w0.heap.size,0,none⟩),.agg #[.int .i64 pl,.bool pd,.bool pi,.bool pg,.bool psg]] w (Rq w0 l a cap N0 s j v w (incrR E l pi pg j RX)):=by
 have HC:=hid hc
 have HL:=hid (show l.length≤100000 by omega)
 have bs:=hid hl
 have HX:=hid hX
 have OX:=hid oX
 have HAT:=hid (ok_at oX)
 have cw:=hid hl
 obtain⟨W,hW⟩:∃W,W=(w.alloc (.cells #[.int .i64 pl,.bool pd,.bool pi,.bool pg,.bool psg] 44)).alloc (.cells #[.slice none 0 0,.bool false] 95):=⟨_,rfl⟩
 have hB:Below w.heap.size w W:=by rw[hW];exact((Below.refl _ _).alloc (Nat.le_refl _) _).alloc (by simp) _
 have P0:=hid (show Mq w0.heap.size w.heap.size #[.int .i64 pl,.bool pd,.bool pi,.bool pg,.bool psg] 44 v W from Mq.of hst (by rw[hW];exact(Bk.new _ _ _).alloc _) (Nat.le_refl _))
 have R0:=hid (show Mq w0.heap.size (w.heap.size+1) #[.slice none 0 0,.bool false] 95 v W from Mq.of hst (by rw[hW];have:=Bk.new (w.alloc (.cells #[.int .i64 pl,.bool pd,.bool pi,.bool pg,.bool psg] 44)) #[.slice none 0 0,.bool false] 95;simpa using this) (Nat.le_succ _))
 have S0:=hid (hst.keep hB)
 have G0:=hid (show Gr (X0 w0.heap.size) v v w W from Gr.quiet hB)
 have HLT:=hid hst.lt
 have HBS:=hid hB.size
 have HJN:=hid hst.jn
 have HWS:=hid (show W.heap.size=w.heap.size+2 by rw[hW];simp)
 clear hB hst
 have HK:=hid (kind_any _ S0.out HC.out HL.out)
 have HPRE:=hid (fun(w:World) (hst:Sq w0 l a cap N0 s j false v w) hk=>pre_any pl pd pi pg psg w hst hc hl hE oE hk)
 clear hE oE hc hl hX oX
 by_cases hs:isInc (kd l j)=true
 case pos=>
  have HPR:=hid (show incrR E l pi pg j RX=preR E l pi pg j from if_pos hs)
  have bY:=hid hs
  obtain⟨c,hcc⟩:∃c,kd l j=c:=⟨_,rfl⟩
  rw[hcc]at HK hs
  have HSG:=hid (fun W2=>signs_any c W2)
  rw[hs]at HSG
  clear hs hcc
  obtain⟨c1,c2,c3,c4⟩:=S0.c
  have m5:=P0.bk.c5
  have a4:=R0.bk.c2
  have a5:=R0.bk.f
  rw[hW]at c1 c2 c3 c4 m5 a4 a5
  go_enter Tryz.func116,Tryz.ntmps116
  go_wp2_with fail
  rw[←hW]
  clear c1 c2 c3 c4 m5 a4 a5 hW
  refine(HK.out).mono ?_
  rintro e bi ⟨rfl,V⟩
  have aj:=hid (S0.keep V)
  have ao:=hid (P0.keep V)
  have ad:=hid (R0.keep V)
  have bc:=hid (G0.trans (Gr.quiet V))
  clear V
  have bb:=aj.c
  have bg:=ao.bk.c5
  have aY:=ad.bk.c2
  go_wp2_with fail
  clear bb bg aY
  refine(HSG.out _).mono ?_
  rintro e ws ⟨rfl,rfl⟩
  have aV:=aj.c
  have aZ:=ao.bk.c5
  have bf:=ad.bk.c2
  go_wp2_with fail
  clear aV aZ bf
  refine(HPRE.out bi aj.out bY.out).mono ?_
  rintro e bw ⟨T,b2,bo,cy,rfl,s9,aJ,t9,bl⟩
  have az:=hid s9
  have b9:=hid (ao.go aJ)
  have aD:=hid (ad.go aJ)
  have co:=hid (bc.trans aJ)
  have cj:=hid t9
  have bV:=hid bl
  obtain⟨bz,bn,rfl,b5⟩:=t9.lies
  clear s9 t9 aJ bl b5
  have cb:=az.c
  have bZ:=b9.bk.c5
  have bO:=aD.bk.c2
  have cg:=aD.bk.f
  go_wp2
  clear cb bZ bO cg
  obtain⟨ci,cr⟩:=(aD.bk.put2 (.slice bz b2.length bn) (.bool bo)).c2
  exact bodyPost_ret (v:= .agg #[.slice bz b2.length bn,.bool bo]) (by simp[results,Tryz.results116,go_sem,ci,cr]) rfl (by rw[HPR.out];exact rq_end HLT.out az.out co.out aD.out cj.out (by exact Nat.le_succ _) (by exact ad.bk.lt) (bV.out))
 case neg=>
  have hs':isInc (kd l j)=false:=by simpa using hs
  have aG:=hid (show incrR E l pi pg j RX=incr2R l RX from if_neg hs)
  obtain⟨c,hcc⟩:∃c,kd l j=c:=⟨_,rfl⟩
  rw[hcc]at HK hs'
  have HSG:=hid (fun W2=>signs_any c W2)
  rw[hs']at HSG
  clear hs hs' hcc
  obtain⟨c1,c2,c3,c4⟩:=S0.c
  have m5:=P0.bk.c5
  have a4:=R0.bk.c2
  have a5:=R0.bk.f
  rw[hW]at c1 c2 c3 c4 m5 a4 a5
  go_enter Tryz.func116,Tryz.ntmps116
  go_wp2_with fail
  rw[←hW]
  clear c1 c2 c3 c4 m5 a4 a5 hW
  refine(HK.out).mono ?_
  rintro e bi ⟨rfl,V⟩
  have aj:=hid (S0.keep V)
  have ao:=hid (P0.keep V)
  have ad:=hid (R0.keep V)
  have bc:=hid (G0.trans (Gr.quiet V))
  clear V
  have bb:=aj.c
  have bg:=ao.bk.c5
  have aY:=ad.bk.c2
  go_wp2_with fail
  clear bb bg aY
  refine(HSG.out _).mono ?_
  rintro e ws ⟨rfl,rfl⟩
  have aV:=aj.c
  have aZ:=ao.bk.c5
  have bf:=ad.bk.c2
  go_wp2_with fail
  clear aV aZ bf
  refine(part_any _ _ _ _ _ _ _).mono ?_
  rintro e bw ⟨rfl,a1⟩
  have az:=hid (aj.keep a1)
  have bt:=hid (ao.keep a1)
  have a2:=hid (ad.keep a1)
  have bK:=hid (bc.trans (Gr.quiet a1))
  clear a1
  have cf:=az.c
  have bS:=bt.bk.c5
  have cn:=a2.bk.c2
  go_wp2_with fail
  clear cf bS cn
  refine(HX.out v bw az.out).mono ?_
  rintro e aA ⟨T,y,Z,aR,rfl,s9,aF,t9,bj⟩
  have bm:=hid s9
  have bT:=hid (bt.go aF)
  have b6:=hid (a2.go aF)
  have bC:=hid (bK.trans aF)
  have cl:=hid t9
  have ai:=hid bj
  obtain⟨ab,J,rfl,bN⟩:=t9.lies
  clear s9 t9 aF bj bN
  have q63hW:=hid (show y.length≤20000 from Nat.le_trans (gt_wk ai.out OX.out).1 (by have:=bs.out;have:=HAT.out;omega))
  obtain⟨a6,A⟩:∃W,W=aA.alloc (.cells #[.slice ab y.length J,.bool Z] 95):=⟨_,rfl⟩
  have au:Below aA.heap.size aA a6:=by rw[A];exact(Below.refl _ _).alloc (Nat.le_refl _) _
  have ae:=hid (show Mq w0.heap.size aA.heap.size #[.slice ab y.length J,.bool Z] 95 aR a6 from Mq.of bm.out (by rw[A];exact Bk.new _ _ _) (Nat.le_refl _))
  have ct:=hid (show a6.heap.size=aA.heap.size+1 by rw[A];simp)
  have br:=hid (bm.keep au)
  have ag:=hid (bT.keep au)
  have F:=hid (b6.keep au)
  have aL:=hid (cl.out.keep au)
  have aM:=hid (bC.trans (Gr.quiet au))
  clear au
  cases RX with
  |bad m=>
   have Sb:=hid (show Sq w0 l a cap N0 s m true aR a6 from br.out)
   have U:=Sb.c
   have N:=ag.bk.c5
   have Q:=F.bk.c2
   have aa:=F.bk.f
   have O:=ae.bk.c2
   rw[A]at U N Q aa O
   go_wp2_with fail
   rw[←A]
   clear U N Q aa O A
   refine(kind_any _ Sb.out HC.out HL.out).mono ?_
   rintro e aP ⟨rfl,h⟩
   have D:=hid (Sb.keep h)
   have K:=hid (ag.keep h)
   have o:=hid (F.keep h)
   have G:=hid (ae.keep h)
   have ac:=hid (aL.keep h)
   have aq:=hid (aM.trans (Gr.quiet h))
   clear h
   have ap:=D.c
   have ar:=K.bk.c5
   have am:=o.bk.c2
   have ak:=o.bk.f
   have al:=G.bk.c2
   go_wp2
   clear ap ar am ak al
   obtain⟨bB,bA⟩:=(o.bk.put2 (.slice ab y.length J) (.bool Z)).c2
   exact bodyPost_ret (v:= .agg #[.slice ab y.length J,.bool Z]) (by simp[results,Tryz.results116,go_sem,bB,bA]) rfl (by rw[aG.out];exact rq_end HLT.out D.out aq.out o.out ac.out (by exact Nat.le_succ _) (by exact a2.bk.lt) (ai.out))
  |ok lv tg tx m=>
   have Sb:=hid (show Sq w0 l a cap N0 s m false aR a6 from br.out)
   have htg:tg=put Z y:=ai.out.2
   obtain⟨c2,af⟩:∃c2,kd l m=c2:=⟨_,rfl⟩
   have bJ:=hid af
   have aN:=hid (kind_any _ Sb.out HC.out HL.out)
   rw[af]at aN
   have a7:=hid (fun W2=>signs_any c2 W2)
   have HTG:=hid htg
   by_cases hs2:isInc c2=true
   case neg=>
    have ba:isInc c2=false:=by simpa using hs2
    rw[ba]at a7
    have HPR:=hid (show incrR E l pi pg j (.ok lv tg tx m)= .ok lv tg tx m from aG.trans (if_neg (show¬(isInc (kd l m)&&tg)=true by rw[af,ba];simp)))
    clear hs2 ba af htg
    have U:=Sb.c
    have N:=ag.bk.c5
    have Q:=F.bk.c2
    have aa:=F.bk.f
    have O:=ae.bk.c2
    rw[A]at U N Q aa O
    go_wp2_with fail
    rw[←A]
    clear U N Q aa O A
    refine(aN.out).mono ?_
    rintro e aP ⟨rfl,h⟩
    have D:=hid (Sb.keep h)
    have K:=hid (ag.keep h)
    have o:=hid (F.keep h)
    have G:=hid (ae.keep h)
    have ac:=hid (aL.keep h)
    have aq:=hid (aM.trans (Gr.quiet h))
    clear h
    have ap:=D.c
    have ar:=K.bk.c5
    have am:=o.bk.c2
    have ak:=o.bk.f
    have al:=G.bk.c2
    go_wp2_with fail
    clear ap ar am ak al
    refine(a7.out _).mono ?_
    rintro e ws ⟨rfl,rfl⟩
    have ax:=D.c
    have aB:=K.bk.c5
    have a8:=o.bk.c2
    have a0:=o.bk.f
    have a9:=G.bk.c2
    go_wp2
    clear ax aB a8 a0 a9
    obtain⟨bG,b7⟩:=(o.bk.put2 (.slice ab y.length J) (.bool Z)).c2
    exact bodyPost_ret (v:= .agg #[.slice ab y.length J,.bool Z]) (by simp[results,Tryz.results116,go_sem,bG,b7]) rfl (by rw[HPR.out];exact rq_end HLT.out D.out aq.out o.out ac.out (by exact Nat.le_succ _) (by exact a2.bk.lt) (ai.out))
   case pos=>
    have b0:=hid (inc_vals hs2)
    rw[hs2]at a7
    cases tg with
    |false=>
     have HPR:=hid (show incrR E l pi pg j (.ok lv false tx m)= .ok lv false tx m from aG.trans (if_neg (show¬(isInc (kd l m)&&false)=true by simp)))
     clear hs2 af htg
     have U:=Sb.c
     have N:=ag.bk.c5
     have Q:=F.bk.c2
     have aa:=F.bk.f
     have O:=ae.bk.c2
     rw[A]at U N Q aa O
     go_wp2_with fail
     rw[←A]
     clear U N Q aa O A
     refine(aN.out).mono ?_
     rintro e aP ⟨rfl,h⟩
     have D:=hid (Sb.keep h)
     have K:=hid (ag.keep h)
     have o:=hid (F.keep h)
     have G:=hid (ae.keep h)
     have ac:=hid (aL.keep h)
     have aq:=hid (aM.trans (Gr.quiet h))
     clear h
     have ap:=D.c
     have ar:=K.bk.c5
     have am:=o.bk.c2
     have ak:=o.bk.f
     have al:=G.bk.c2
     go_wp2_with fail
     clear ap ar am ak al
     refine(a7.out _).mono ?_
     rintro e ws ⟨rfl,rfl⟩
     have ax:=D.c
     have aB:=K.bk.c5
     have a8:=o.bk.c2
     have a0:=o.bk.f
     have a9:=G.bk.c2
     go_wp2_with fail
     clear ax aB a8 a0 a9
     have ay:=ac.lies'
     have HPT:=hid (put_any y _ J Z _ ay (by have:=q63hW.out;omega))
     rw[←HTG.out]at HPT
     clear ay
     refine(HPT.out).mono ?_
     rintro e bF ⟨rfl,C⟩
     have a3:=hid (D.keep C)
     have aC:=hid (K.keep C)
     have ah:=hid (o.keep C)
     have aE:=hid (G.keep C)
     have aK:=hid (ac.keep C)
     have aQ:=hid (aq.trans (Gr.quiet C))
     clear C
     have aS:=a3.c
     have aT:=aC.bk.c5
     have aW:=ah.bk.c2
     have be:=ah.bk.f
     have aU:=aE.bk.c2
     go_wp2
     clear aS aT aW be aU
     have b8:=aK.lies'
     clear b8
     obtain⟨bD,cp⟩:=(ah.bk.put2 (.slice ab y.length J) (.bool Z)).c2
     exact bodyPost_ret (v:= .agg #[.slice ab y.length J,.bool Z]) (by simp[results,Tryz.results116,go_sem,bD,cp]) rfl (by rw[HPR.out];exact rq_end HLT.out a3.out aQ.out ah.out aK.out (by exact Nat.le_succ _) (by exact a2.bk.lt) (ai.out))
    |true=>
     have HPR:=hid (show incrR E l pi pg j (.ok lv true tx m)=fin 10 c2 ⟨#[]⟩ [tx] (m+1)from aG.trans (by rw[←af];exact if_pos (show(isInc (kd l m)&&true)=true by rw[af,hs2];rfl)))
     clear hs2 af htg
     have U:=Sb.c
     have N:=ag.bk.c5
     have Q:=F.bk.c2
     have aa:=F.bk.f
     have O:=ae.bk.c2
     rw[A]at U N Q aa O
     go_wp2_with fail
     rw[←A]
     clear U N Q aa O A
     refine(aN.out).mono ?_
     rintro e aP ⟨rfl,h⟩
     have D:=hid (Sb.keep h)
     have K:=hid (ag.keep h)
     have o:=hid (F.keep h)
     have G:=hid (ae.keep h)
     have ac:=hid (aL.keep h)
     have aq:=hid (aM.trans (Gr.quiet h))
     clear h
     have ap:=D.c
     have ar:=K.bk.c5
     have am:=o.bk.c2
     have ak:=o.bk.f
     have al:=G.bk.c2
     go_wp2_with fail
     clear ap ar am ak al
     refine(a7.out _).mono ?_
     rintro e ws ⟨rfl,rfl⟩
     have ax:=D.c
     have aB:=K.bk.c5
     have a8:=o.bk.c2
     have a0:=o.bk.f
     have a9:=G.bk.c2
     go_wp2_with fail
     clear ax aB a8 a0 a9
     have ay:=ac.lies'
     have HPT:=hid (put_any y _ J Z _ ay (by have:=q63hW.out;omega))
     rw[←HTG.out]at HPT
     clear ay
     refine(HPT.out).mono ?_
     rintro e bF ⟨rfl,C⟩
     have a3:=hid (D.keep C)
     have aC:=hid (K.keep C)
     have ah:=hid (o.keep C)
     have aE:=hid (G.keep C)
     have aK:=hid (ac.keep C)
     have aQ:=hid (aq.trans (Gr.quiet C))
     clear C
     have aS:=a3.c
     have aT:=aC.bk.c5
     have aW:=ah.bk.c2
     have be:=ah.bk.f
     have aU:=aE.bk.c2
     go_wp2_with fail
     clear aS aT aW be aU
     refine(take_yes c2 _ a3.out HC.out HL.out (by have:=b0.out;omega) (by have:=b0.out;omega) bJ.out).mono ?_
     rintro e aI ⟨rfl,bv,aw⟩
     have aX:=hid bv
     have bq:=hid (aC.go aw)
     have aO:=hid (ah.go aw)
     have bh:=hid (aE.go aw)
     have b3:=hid (aK.go aw)
     have bR:=hid (aQ.trans aw)
     clear bv aw
     have cd:=aX.c
     have bW:=bq.bk.c5
     have bQ:=aO.bk.c2
     have ch:=aO.bk.f
     have bH:=bh.bk.c2
     go_wp2_with fail
     clear cd bW bQ ch bH
     have bu:=b3.lies'
     refine(over1_any rfl 10 c2 ⟨#[]⟩ y bu (wk_mono (gt_wk ai.out OX.out) (by have:=bs.out;have:=HAT.out;omega))).mono ?_
     rintro e bX ⟨T,z,r,rfl,hz,hp,bx,hr⟩
     have u1870:=Tq.of (aX.alloc (.cells #[.slice ab y.length J] 26)) hp hr
     rw[hz]at u1870
     have bU:=hid (show(aI.alloc (.cells #[.slice ab y.length J] 26)).heap.size=aI.heap.size+1 by simp)
     rw[bU.out]at u1870
     have bP:=hid u1870
     have an:Below aI.heap.size aI bX:=((Below.refl _ _).alloc (Nat.le_refl _) _).trans (bx.mono (by simp))
     have b1:=hid (aX.keep an)
     have bI:=hid (bq.keep an)
     have aH:=hid (aO.keep an)
     have cc:=hid (bh.keep an)
     have cx:=hid (b3.keep an)
     have ca:=hid (bR.trans (Gr.quiet an))
     obtain⟨b4,bp,rfl,-⟩:=u1870.lies
     clear u1870 hz hp hr bx an bu
     have bM:=b1.c
     have cm:=bI.bk.c5
     have ck:=aH.bk.c2
     have ce:=aH.bk.f
     have bL:=cc.bk.c2
     go_wp2
     clear bM cm ck ce bL
     obtain⟨bE,cq⟩:=(aH.bk.put2 (.slice b4 (makeT (nd0 10 c2 ⟨#[]⟩) [y]).length bp) (.bool false)).c2
     exact bodyPost_ret (v:= .agg #[.slice b4 (makeT (nd0 10 c2 ⟨#[]⟩) [y]).length bp,.bool false]) (by simp[results,Tryz.results116,go_sem,bE,cq]) rfl (by rw[HPR.out];exact rq_end HLT.out b1.out ca.out aH.out bP.out (by exact Nat.le_succ _) (by exact Nat.lt_succ_of_lt aO.bk.lt) (⟨by rw[ai.out.1],(put_make _ _ _ _).symm⟩))
end
end Go.Proofs.YtebjmdpkobhcbaaGreatDoor.qs

namespace Go.Proofs.YtebjmdpkobhcbaaGreatDoor.qs
open Lib (hid)
open Go.ChangeShapes Go.WideShapes Go.ChangeAt Go.RowKit
open tk (Tk)
open nd (Nd PT KidV makeT)
open ps (Ps posOk)
open pe
open rt (isLval)
open operand (begins)
open lv (opLevel)
open pr (Bk Gr X0 below_drewN eq_facts ne_facts fld_k fld_s)
set_option linter.unusedVariables false
set_option linter.unusedSimpArgs false
set_option maxRecDepth 20000
section
variable {w0:World} {l:List Tk} {a:Option Addr} {cap:Nat} {N0:List Tk} {s j:Nat} {v:Value} {E:Ps→Nat→R} {M:Nat}
def fieldR(E:Ps→Nat→R)(l:List Tk)(i g:Bool)(j:Nat)(RP:R):R:=if kd l j=68 then over1 6 0 (E ⟨14,true,i,g,false⟩ (j+1))else RP
set_option maxHeartbeats 6400000 in
theorem field_any(pl:Int)(pd pi pg psg:Bool)(w:World)(hst:Sq w0 l a cap N0 s j false v w)(hc:tk.Lies w0.heap.size w0 a l)(hl:l.length≤6000)(RP:R)(hP:∀(v:Value) (w:World),Sq w0 l a cap N0 s j false v w→Calls Tryz.prog 118 #[.pointer (some ⟨w0.heap.size,0,none⟩)] w (Rq w0 l a cap N0 s j v w RP))(hE:CallS w0 l a cap N0 s E (j+1))(oE:∀p i,i≤l.length→Ok M l i (E p i))(E':Ps→Nat→R)(hE':CallS w0 l a cap N0 s E' (j+1+1))(oE':∀p i,i≤l.length→Ok M l i (E' p i))(hD:kd l j=68→E ⟨14,true,pi,pg,false⟩ (j+1)=if isInc (kd l (j+1))=true then preR E' l pi pg (j+1)else E (cp 14 pi pg) (j+1)):
  Calls Tryz.prog 117 #[.pointer (some ⟨w0.heap.size,0,none⟩),.agg #[.int .i64 pl,.bool pd,.bool pi,.bool pg,.bool psg]] w (Rq w0 l a cap N0 s j v w (fieldR E l pi pg j RP)):=by
 have HC:=hid hc
 have HL:=hid (show l.length≤100000 by omega)
 have b2:=hid hl
 have HP:=hid hP
 have HE:=hid hE
 have OE:=hid oE
 have HPRE:=hid (fun(v:Value) (w:World) (hst:Sq w0 l a cap N0 s (j+1) false v w) hk=>pre_any pl pd pi pg psg w hst hc hl hE' oE' hk)
 obtain⟨W,hW⟩:∃W,W=(w.alloc (.cells #[.int .i64 pl,.bool pd,.bool pi,.bool pg,.bool psg] 44)).alloc (.cells #[.slice none 0 0,.bool false] 95):=⟨_,rfl⟩
 have hB:Below w.heap.size w W:=by rw[hW];exact((Below.refl _ _).alloc (Nat.le_refl _) _).alloc (by simp) _
 have P0:=hid (show Mq w0.heap.size w.heap.size #[.int .i64 pl,.bool pd,.bool pi,.bool pg,.bool psg] 44 v W from Mq.of hst (by rw[hW];exact(Bk.new _ _ _).alloc _) (Nat.le_refl _))
 have R0:=hid (show Mq w0.heap.size (w.heap.size+1) #[.slice none 0 0,.bool false] 95 v W from Mq.of hst (by rw[hW];have:=Bk.new (w.alloc (.cells #[.int .i64 pl,.bool pd,.bool pi,.bool pg,.bool psg] 44)) #[.slice none 0 0,.bool false] 95;simpa using this) (Nat.le_succ _))
 have S0:=hid (hst.keep hB)
 have G0:=hid (show Gr (X0 w0.heap.size) v v w W from Gr.quiet hB)
 have HLT:=hid hst.lt
 have HBS:=hid hB.size
 have HJN:=hid hst.jn
 have HWS:=hid (show W.heap.size=w.heap.size+2 by rw[hW];simp)
 clear hB hst
 have HK:=hid (kind_any _ S0.out HC.out HL.out)
 clear hE oE hE' oE' hc hl hP
 by_cases hs:kd l j=68
 case neg=>
  have HPR:=hid (show fieldR E l pi pg j RP=RP from if_neg hs)
  obtain⟨c,hcc⟩:∃c,kd l j=c:=⟨_,rfl⟩
  rw[hcc]at HK hs
  obtain⟨q1,q2⟩:=ne_facts hs
  clear hs hcc hD
  obtain⟨c1,c2,c3,c4⟩:=S0.c
  have m5:=P0.bk.c5
  have aq:=R0.bk.c2
  have au:=R0.bk.f
  rw[hW]at c1 c2 c3 c4 m5 aq au
  go_enter Tryz.func117,Tryz.ntmps117
  go_wp2_with fail
  rw[←hW]
  clear c1 c2 c3 c4 m5 aq au hW
  refine(HK.out).mono ?_
  rintro e bh ⟨rfl,C⟩
  have al:=hid (S0.keep C)
  have ar:=hid (P0.keep C)
  have ah:=hid (R0.keep C)
  have aW:=hid (G0.trans (Gr.quiet C))
  clear C
  have aT:=al.c
  have bb:=ar.bk.c5
  have aK:=ah.bk.c2
  go_wp2_with fail
  clear aT bb aK
  refine(HP.out v bh al.out).mono ?_
  rintro e h ⟨T,bp,bt,db,rfl,s9,aD,t9,bJ⟩
  have bq:=hid s9
  have cX:=hid (ar.go aD)
  have a8:=hid (ah.go aD)
  have cn:=hid (aW.trans aD)
  have cB:=hid t9
  have cW:=hid bJ
  obtain⟨bK,bA,rfl,c6⟩:=t9.lies
  clear s9 t9 aD bJ c6
  have cq:=bq.c
  have ci:=cX.bk.c5
  have cr:=a8.bk.c2
  have cY:=a8.bk.f
  go_wp2
  clear cq ci cr cY
  obtain⟨cg,bR⟩:=(a8.bk.put2 (.slice bK bp.length bA) (.bool bt)).c2
  exact bodyPost_ret (v:= .agg #[.slice bK bp.length bA,.bool bt]) (by simp[results,Tryz.results117,go_sem,cg,bR]) rfl (by rw[HPR.out];exact rq_end HLT.out bq.out cn.out a8.out cB.out (by exact Nat.le_succ _) (by exact ah.bk.lt) (cW.out))
 case pos=>
  have HPR:=hid (show fieldR E l pi pg j RP=over1 6 0 (E ⟨14,true,pi,pg,false⟩ (j+1))from if_pos hs)
  have HD:=hid (hD hs)
  have HJ:=hid (kd_lt (l:=l) (i:=j) (by omega))
  rw[hs]at HK
  have HCC:=hid hs
  obtain⟨RY,hRY⟩:∃R,E ⟨14,true,pi,pg,false⟩ (j+1)=R:=⟨_,rfl⟩
  have HRY:=hid hRY
  have ORY:=hid (show Ok M l (j+1) RY by rw[←hRY];exact OE.out _ _ HJ.out)
  clear hRY
  rw[HRY.out]at HPR
  clear hs hD
  obtain⟨c1,c2,c3,c4⟩:=S0.c
  have m5:=P0.bk.c5
  have aq:=R0.bk.c2
  have au:=R0.bk.f
  rw[hW]at c1 c2 c3 c4 m5 aq au
  go_enter Tryz.func117,Tryz.ntmps117
  go_wp2_with fail
  rw[←hW]
  clear c1 c2 c3 c4 m5 aq au hW
  refine(HK.out).mono ?_
  rintro e bh ⟨rfl,C⟩
  have al:=hid (S0.keep C)
  have ar:=hid (P0.keep C)
  have ah:=hid (R0.keep C)
  have aW:=hid (G0.trans (Gr.quiet C))
  clear C
  have aT:=al.c
  have bb:=ar.bk.c5
  have aK:=ah.bk.c2
  go_wp2_with fail
  clear aT bb aK
  refine(take_yes 68 _ al.out HC.out HL.out (by decide) (by decide) HCC.out).mono ?_
  rintro e h ⟨rfl,bn,a4⟩
  have bw:=hid bn
  have b4:=hid (ar.go a4)
  have bF:=hid (ah.go a4)
  have cf:=hid (aW.trans a4)
  clear bn a4
  have aA:=hid (show w.heap.size<h.heap.size from b4.bk.lt)
  have U:=hid (show(w.heap.size+1)<h.heap.size from bF.bk.lt)
  obtain⟨aG,O⟩:∃W,W=h.alloc (.cells #[.slice none 0 0,.bool false] 95):=⟨_,rfl⟩
  have ax:Below h.heap.size h aG:=by rw[O];exact(Below.refl _ _).alloc (Nat.le_refl _) _
  have a5:=hid (show Mq w0.heap.size h.heap.size #[.slice none 0 0,.bool false] 95 v aG from Mq.of bw.out (by rw[O];exact Bk.new _ _ _) (Nat.le_refl _))
  have da:=hid (show aG.heap.size=h.heap.size+1 by rw[O];simp)
  have a1:=hid (bw.keep ax)
  have a6:=hid (b4.keep ax)
  have aB:=hid (bF.keep ax)
  have bv:=hid (cf.trans (Gr.quiet ax))
  clear ax
  have aN:=hid (kind_any _ a1.out HC.out HL.out)
  obtain⟨c,hcc⟩:∃c,kd l (j+1)=c:=⟨_,rfl⟩
  rw[hcc]at aN
  have HSG:=hid (fun W2=>signs_any c W2)
  have cZ:=hid hcc
  by_cases hi:isInc c=true
  case pos=>
   have HRE:=hid (show RY=preR _ l pi pg (j+1) by rw[←HRY.out,HD.out,hcc,if_pos hi])
   have HI:=hid (show isInc (kd l (j+1))=true by rw[hcc];exact hi)
   rw[hi]at HSG
   clear hi hcc
   have ao:=a1.c
   have an:=a6.bk.c5
   have az:=aB.bk.c2
   have aw:=a5.bk.c2
   rw[O]at ao an az aw
   go_wp2_with fail
   rw[←O]
   clear ao an az aw O
   refine(aN.out).mono ?_
   rintro e aM ⟨rfl,o⟩
   have ac:=hid (a1.keep o)
   have V:=hid (a6.keep o)
   have aa:=hid (aB.keep o)
   have Q:=hid (a5.keep o)
   have aO:=hid (bv.trans (Gr.quiet o))
   clear o
   have ba:=ac.c
   have aY:=V.bk.c5
   have aL:=aa.bk.c2
   have aS:=Q.bk.c2
   go_wp2_with fail
   clear ba aY aL aS
   refine(HSG.out _).mono ?_
   rintro e ws ⟨rfl,rfl⟩
   have bc:=ac.c
   have aJ:=V.bk.c5
   have aR:=aa.bk.c2
   have aV:=Q.bk.c2
   go_wp2_with fail
   clear bc aJ aR aV
   refine(show Calls _ _ _ _ (Rq w0 l a cap N0 s (j+1) v aM RY) by rw[HRE.out];exact HPRE.out v aM ac.out HI.out).mono ?_
   rintro e am ⟨T,A,af,b3,rfl,s9,ay,t9,bG⟩
   have ap:=hid s9
   have bO:=hid (V.go ay)
   have bj:=hid (aa.go ay)
   have aj:=hid (Q.go ay)
   have cM:=hid (aO.trans ay)
   have cj:=hid t9
   have bL:=hid bG
   obtain⟨F,D,rfl,bX⟩:=t9.lies
   clear s9 t9 ay bG bX
   have cA:=ap.c
   have cz:=bO.bk.c5
   have cb:=bj.bk.c2
   have cx:=aj.bk.c2
   have cd:=aj.bk.f
   obtain⟨ag,K⟩:∃W,W=((am.setCell ⟨h.heap.size,0,none⟩ (.slice F A.length D)).setCell ⟨h.heap.size,1,none⟩ (.bool af)):=⟨_,rfl⟩
   have aI:=hid (by rw[K];exact((ap.out).mset aj.out 0 _).mset (aj.set 0 (.slice F A.length D)) 1 _:Sq w0 l a cap N0 s (atQ RY) (bdQ RY) b3 ag)
   have aZ:=hid ((bO.oth (k:=h.heap.size) (by have:=aA.out;omega) 0 (.slice F A.length D)).oth (k:=h.heap.size) (by have:=aA.out;omega) 1 (.bool af))
   rw[←K]at aZ
   have aE:=hid ((bj.oth (k:=h.heap.size) (by have:=U.out;omega) 0 (.slice F A.length D)).oth (k:=h.heap.size) (by have:=U.out;omega) 1 (.bool af))
   rw[←K]at aE
   have b0:=hid (by rw[K];exact((aj.set 0 (.slice F A.length D)).set 1 (.bool af)):Mq w0.heap.size h.heap.size #[.slice F A.length D,.bool af] 95 b3 ag)
   have aF:=hid ((cj.out.low (g:=h.heap.size) (Q.bk.lt) 0 (.slice F A.length D)).low (g:=h.heap.size) (Q.bk.lt) 1 (.bool af))
   rw[←K]at aF
   have bM:=hid ((cM.set (g:=h.heap.size) (.inr (by have:=U.out;omega)) 0 (.slice F A.length D)).set (g:=h.heap.size) (.inr (by have:=U.out;omega)) 1 (.bool af))
   rw[←K]at bM
   have c8:=hid (show ag.heap.size=am.heap.size by rw[K];simp)
   have bx:=aI.c
   have bB:=aZ.bk.c5
   have b1:=aE.bk.c2
   have bD:=b0.bk.c2
   rw[K]at bx bB b1 bD
   go_wp2_with fail
   rw[←K]
   clear cA cz cb cx cd bx bB b1 bD K
   have bP:=aF.lies'
   refine(over1_any c8.out 6 0 ⟨#[]⟩ A bP (wk_mono (gt_wk bL.out ORY.out) (by have:=b2.out;have:=(ok_at ORY.out).2;omega))).mono ?_
   rintro e cK ⟨T,z,r,rfl,hz,hp,bu,hr⟩
   have u1500:=Tq.of (aI.alloc (.cells #[.slice F A.length D] 26)) hp hr
   rw[hz]at u1500
   have bZ:=hid (show(ag.alloc (.cells #[.slice F A.length D] 26)).heap.size=ag.heap.size+1 by simp)
   rw[bZ.out]at u1500
   have cI:=hid u1500
   have Z:Below ag.heap.size ag cK:=((Below.refl _ _).alloc (Nat.le_refl _) _).trans (bu.mono (by simp))
   have aH:=hid (aI.keep Z)
   have cV:=hid (aZ.keep Z)
   have a3:=hid (aE.keep Z)
   have cm:=hid (b0.keep Z)
   have dd:=hid (aF.keep Z)
   have c0:=hid (bM.trans (Gr.quiet Z))
   obtain⟨bm,b7,rfl,-⟩:=u1500.lies
   clear u1500 hz hp hr bu Z bP
   have ca:=aH.c
   have a2:=cV.bk.c5
   have ch:=a3.bk.c2
   have ct:=a3.bk.f
   have cT:=cm.bk.c2
   go_wp2
   clear ca a2 ch ct cT
   obtain⟨cS,cF⟩:=(a3.bk.put2 (.slice bm (makeT (nd0 6 0 ⟨#[]⟩) [A]).length b7) (.bool false)).c2
   exact bodyPost_ret (v:= .agg #[.slice bm (makeT (nd0 6 0 ⟨#[]⟩) [A]).length b7,.bool false]) (by simp[results,Tryz.results117,go_sem,cS,cF]) rfl (by rw[HPR.out];exact rq_end HLT.out (by first|exact aH.out|(simp only[at_over1,bd_over1,at_over2,bd_over2];exact aH.out)) c0.out a3.out cI.out (by exact Nat.le_succ _) (by exact Nat.lt_succ_of_lt aE.bk.lt) (gt_over1 (Nat.lt_succ_self j) bL.out ORY.out))
  case neg=>
   have HRE:=hid (show RY=E (cp 14 pi pg) (j+1) by rw[←HRY.out,HD.out,hcc,if_neg hi])
   have hi':isInc c=false:=by simpa using hi
   rw[hi']at HSG
   clear hi hi' hcc
   have ao:=a1.c
   have an:=a6.bk.c5
   have az:=aB.bk.c2
   have aw:=a5.bk.c2
   rw[O]at ao an az aw
   go_wp2_with fail
   rw[←O]
   clear ao an az aw O
   refine(aN.out).mono ?_
   rintro e aM ⟨rfl,o⟩
   have ac:=hid (a1.keep o)
   have V:=hid (a6.keep o)
   have aa:=hid (aB.keep o)
   have Q:=hid (a5.keep o)
   have aO:=hid (bv.trans (Gr.quiet o))
   clear o
   have ba:=ac.c
   have aY:=V.bk.c5
   have aL:=aa.bk.c2
   have aS:=Q.bk.c2
   go_wp2_with fail
   clear ba aY aL aS
   refine(HSG.out _).mono ?_
   rintro e ws ⟨rfl,rfl⟩
   have bc:=ac.c
   have aJ:=V.bk.c5
   have aR:=aa.bk.c2
   have aV:=Q.bk.c2
   go_wp2_with fail
   clear bc aJ aR aV
   refine(part_any _ _ _ _ _ _ _).mono ?_
   rintro e am ⟨rfl,ai⟩
   have ap:=hid (ac.keep ai)
   have bI:=hid (V.keep ai)
   have b9:=hid (aa.keep ai)
   have aC:=hid (Q.keep ai)
   have bQ:=hid (aO.trans (Gr.quiet ai))
   clear ai
   have cH:=ap.c
   have ck:=bI.bk.c5
   have cw:=b9.bk.c2
   have bU:=aC.bk.c2
   go_wp2_with fail
   clear cH ck cw bU
   refine(show Calls _ _ _ _ (Rq w0 l a cap N0 s (j+1) v am RY) by rw[HRE.out];exact HE.out 14 pi pg false (j+1) v am (by decide) (by decide) (by omega) ap.out).mono ?_
   rintro e bN ⟨T,y,ab,bz,rfl,s9,ak,t9,bs⟩
   have bi:=hid s9
   have bo:=hid (bI.go ak)
   have bH:=hid (b9.go ak)
   have a0:=hid (aC.go ak)
   have cc:=hid (bQ.trans ak)
   have cU:=hid t9
   have b6:=hid bs
   obtain⟨J,G,rfl,cO⟩:=t9.lies
   clear s9 t9 ak bs cO
   have cQ:=bi.c
   have cE:=bo.bk.c5
   have cD:=bH.bk.c2
   have bS:=a0.bk.c2
   have bW:=a0.bk.f
   obtain⟨ae,N⟩:∃W,W=((bN.setCell ⟨h.heap.size,0,none⟩ (.slice J y.length G)).setCell ⟨h.heap.size,1,none⟩ (.bool ab)):=⟨_,rfl⟩
   have aP:=hid (by rw[N];exact((bi.out).mset a0.out 0 _).mset (a0.set 0 (.slice J y.length G)) 1 _:Sq w0 l a cap N0 s (atQ RY) (bdQ RY) bz ae)
   have aU:=hid ((bo.oth (k:=h.heap.size) (by have:=aA.out;omega) 0 (.slice J y.length G)).oth (k:=h.heap.size) (by have:=aA.out;omega) 1 (.bool ab))
   rw[←N]at aU
   have a9:=hid ((bH.oth (k:=h.heap.size) (by have:=U.out;omega) 0 (.slice J y.length G)).oth (k:=h.heap.size) (by have:=U.out;omega) 1 (.bool ab))
   rw[←N]at a9
   have bE:=hid (by rw[N];exact((a0.set 0 (.slice J y.length G)).set 1 (.bool ab)):Mq w0.heap.size h.heap.size #[.slice J y.length G,.bool ab] 95 bz ae)
   have aX:=hid ((cU.out.low (g:=h.heap.size) (aC.bk.lt) 0 (.slice J y.length G)).low (g:=h.heap.size) (aC.bk.lt) 1 (.bool ab))
   rw[←N]at aX
   have b5:=hid ((cc.set (g:=h.heap.size) (.inr (by have:=U.out;omega)) 0 (.slice J y.length G)).set (g:=h.heap.size) (.inr (by have:=U.out;omega)) 1 (.bool ab))
   rw[←N]at b5
   have cl:=hid (show ae.heap.size=bN.heap.size by rw[N];simp)
   have bC:=aP.c
   have br:=aU.bk.c5
   have bf:=a9.bk.c2
   have a2:=bE.bk.c2
   rw[N]at bC br bf a2
   go_wp2_with fail
   rw[←N]
   clear cQ cE cD bS bW bC br bf a2 N
   have be:=aX.lies'
   refine(over1_any cl.out 6 0 ⟨#[]⟩ y be (wk_mono (gt_wk b6.out ORY.out) (by have:=b2.out;have:=(ok_at ORY.out).2;omega))).mono ?_
   rintro e bT ⟨T,z,r,rfl,hz,hp,bl,hr⟩
   have u1700:=Tq.of (aP.alloc (.cells #[.slice J y.length G] 26)) hp hr
   rw[hz]at u1700
   have bV:=hid (show(ae.alloc (.cells #[.slice J y.length G] 26)).heap.size=ae.heap.size+1 by simp)
   rw[bV.out]at u1700
   have cJ:=hid u1700
   have ad:Below ae.heap.size ae bT:=((Below.refl _ _).alloc (Nat.le_refl _) _).trans (bl.mono (by simp))
   have aQ:=hid (aP.keep ad)
   have cC:=hid (aU.keep ad)
   have a7:=hid (a9.keep ad)
   have c7:=hid (bE.keep ad)
   have dc:=hid (aX.keep ad)
   have cR:=hid (b5.trans (Gr.quiet ad))
   obtain⟨b8,bg,rfl,-⟩:=u1700.lies
   clear u1700 hz hp hr bl ad be
   have co:=aQ.c
   have bY:=cC.bk.c5
   have c9:=a7.bk.c2
   have cy:=a7.bk.f
   have cL:=c7.bk.c2
   go_wp2
   clear co bY c9 cy cL
   obtain⟨cG,ce⟩:=(a7.bk.put2 (.slice b8 (makeT (nd0 6 0 ⟨#[]⟩) [y]).length bg) (.bool false)).c2
   exact bodyPost_ret (v:= .agg #[.slice b8 (makeT (nd0 6 0 ⟨#[]⟩) [y]).length bg,.bool false]) (by simp[results,Tryz.results117,go_sem,cG,ce]) rfl (by rw[HPR.out];exact rq_end HLT.out (by first|exact aQ.out|(simp only[at_over1,bd_over1,at_over2,bd_over2];exact aQ.out)) cR.out a7.out cJ.out (by exact Nat.le_succ _) (by exact Nat.lt_succ_of_lt a9.bk.lt) (gt_over1 (Nat.lt_succ_self j) b6.out ORY.out))
end
end Go.Proofs.YtebjmdpkobhcbaaGreatDoor.qs

namespace Go.Proofs.YtebjmdpkobhcbaaGreatDoor.qs
open Lib (hid)
open Go.ChangeShapes Go.WideShapes Go.ChangeAt Go.RowKit
open tk (Tk)
open nd (Nd PT KidV makeT)
open ps (Ps posOk)
open pe
open rt (isLval)
open operand (begins)
open lv (opLevel)
open pr (Bk Gr X0 below_drewN eq_facts ne_facts fld_k fld_s)
set_option linter.unusedVariables false
set_option linter.unusedSimpArgs false
set_option maxRecDepth 20000
section
variable {w0:World} {l:List Tk} {a:Option Addr} {cap:Nat} {N0:List Tk} {s j:Nat} {v:Value} {E:Ps→Nat→R} {M:Nat}
def condR(E:Ps→Nat→R)(l:List Tk)(i g:Bool):R→R
 | .bad m=> .bad m
 | .ok lv tg t m=>if kd l m=65 then cond E l (cp 2 i g) t m else .ok lv tg t m
theorem cond_bad1{i g:Bool}{t:List Nd}{m m1:Nat}(h:E (cp 2 i g) (m+1)= .bad m1):cond E l (cp 2 i g) t m= .bad m1:=by
 unfold pe.cond
 rw[kq_cond (by decide) (.inl rfl),h]
theorem cond_bad2{i g:Bool}{t u:List Nd}{m m1:Nat}{lv:Int}{tg:Bool}(h:E (cp 2 i g) (m+1)= .ok lv tg u m1)(h2:¬kd l m1=66):cond E l (cp 2 i g) t m= .bad m1:=by
 unfold pe.cond
 rw[kq_cond (by decide) (.inl rfl),h]
 exact if_neg h2
def over3(k op:Int)(t u:List Nd):R→R
 | .bad m=> .bad m
 | .ok _ _ x m=>fin k op ⟨#[]⟩ [t,u,x] m
theorem at_over3(k op:Int)(t u:List Nd)(r:R):atQ (over3 k op t u r)=atQ r:=by cases r<;>rfl
theorem bd_over3(k op:Int)(t u:List Nd)(r:R):bdQ (over3 k op t u r)=bdQ r:=by cases r<;>rfl
theorem cond_over{i g:Bool}{t u:List Nd}{m m1:Nat}{lv:Int}{tg:Bool}(h:E (cp 2 i g) (m+1)= .ok lv tg u m1)(h2:kd l m1=66):cond E l (cp 2 i g) t m=over3 14 0 t u (E (cp 2 i g) (m1+1)):=by
 unfold pe.cond
 rw[kq_cond (by decide) (.inl rfl),h]
 simp only
 rw[if_pos h2,kq_cond (by decide) (.inr rfl)]
 cases E (cp 2 i g) (m1+1)<;>rfl
theorem gt_over3{i m m' m1 m1':Nat}{t1 t2 t3:List Nd}{h1 h2 h3:Bool}{k op:Int}{r:R}{lv lv2:Int}{tg tg2:Bool}{t t':List Nd}(hx:GtR i t1 h1 (.ok lv tg t m))(ox:Ok M l i (.ok lv tg t m))(hm:m≤m')(hy:GtR m' t2 h2 (.ok lv2 tg2 t' m1))(oy:Ok M l m' (.ok lv2 tg2 t' m1))(hm1:m1≤m1')(hz:GtR m1' t3 h3 r)(oz:Ok M l m1' r):GtR i (makeT (nd0 k op ⟨#[]⟩) [t1,t2,t3]) false (over3 k op t t' r):=by
 have hw:=gt_wk hz oz
 have h:=gt_wk1 hx ox
 have o:=gt_wk1 hy oy
 have hlt:=ox.1
 have y:=oy.1
 obtain⟨rfl,-⟩:=hx
 obtain⟨rfl,-⟩:=hy
 cases r with
 |bad j=>exact wk_mono (wk_three h o hw) (by have:=oz.1;show 2*(m-i)-1+(2*(m1-m')-1)+2*(j-m1')+1≤2*(j-i);omega)
 |ok lv' tg' u j=>
  obtain⟨rfl,-⟩:=hz
  exact⟨rfl,(put_make _ _ _ _).symm⟩
set_option maxHeartbeats 6400000 in
theorem cond_any(pl:Int)(pd pi pg psg:Bool)(w:World)(hst:Sq w0 l a cap N0 s j false v w)(hc:tk.Lies w0.heap.size w0 a l)(hl:l.length≤6000)(RX:R)(hX:∀(v:Value) (w:World),Sq w0 l a cap N0 s j false v w→Calls Tryz.prog 63 #[.pointer (some ⟨w0.heap.size,0,none⟩),.agg #[.int .i64 3,.bool false,.bool pi,.bool pg,.bool false]] w (Rq w0 l a cap N0 s j v w RX))(oX:Ok M l j RX)(hE:CallS w0 l a cap N0 s E (j+1))(oE:∀p i,i≤l.length→Ok M l i (E p i)):
  Calls Tryz.prog 111 #[.pointer (some ⟨w0.heap.size,0,none⟩),.agg #[.int .i64 pl,.bool pd,.bool pi,.bool pg,.bool psg]] w (Rq w0 l a cap N0 s j v w (condR E l pi pg RX)):=by
 have HC:=hid hc
 have HL:=hid (show l.length≤100000 by omega)
 have bj:=hid hl
 have HX:=hid hX
 have OX:=hid oX
 have HE:=hid hE
 have OE:=hid oE
 have HAT:=hid (ok_at oX)
 obtain⟨W,hW⟩:∃W,W=(w.alloc (.cells #[.int .i64 pl,.bool pd,.bool pi,.bool pg,.bool psg] 44)).alloc (.cells #[.slice none 0 0,.bool false] 95):=⟨_,rfl⟩
 have hB:Below w.heap.size w W:=by rw[hW];exact((Below.refl _ _).alloc (Nat.le_refl _) _).alloc (by simp) _
 have P0:=hid (show Mq w0.heap.size w.heap.size #[.int .i64 pl,.bool pd,.bool pi,.bool pg,.bool psg] 44 v W from Mq.of hst (by rw[hW];exact(Bk.new _ _ _).alloc _) (Nat.le_refl _))
 have R0:=hid (show Mq w0.heap.size (w.heap.size+1) #[.slice none 0 0,.bool false] 95 v W from Mq.of hst (by rw[hW];have:=Bk.new (w.alloc (.cells #[.int .i64 pl,.bool pd,.bool pi,.bool pg,.bool psg] 44)) #[.slice none 0 0,.bool false] 95;simpa using this) (Nat.le_succ _))
 have S0:=hid (hst.keep hB)
 have G0:=hid (show Gr (X0 w0.heap.size) v v w W from Gr.quiet hB)
 have HLT:=hid hst.lt
 have HBS:=hid hB.size
 have HJN:=hid hst.jn
 have HWS:=hid (show W.heap.size=w.heap.size+2 by rw[hW];simp)
 clear hB hst
 clear hX oX hE oE hc hl
 obtain⟨c1,c2,c3,c4⟩:=S0.c
 have m5:=P0.bk.c5
 have cT:=R0.bk.c2
 have cV:=R0.bk.f
 rw[hW]at c1 c2 c3 c4 m5 cT cV
 go_enter Tryz.func111,Tryz.ntmps111
 go_wp2_with fail
 rw[←hW]
 clear c1 c2 c3 c4 m5 cT cV hW
 refine(part_any _ _ _ _ _ _ _).mono ?_
 rintro e dk ⟨rfl,bY⟩
 have cI:=hid (S0.keep bY)
 have cU:=hid (P0.keep bY)
 have ch:=hid (R0.keep bY)
 have dB:=hid (G0.trans (Gr.quiet bY))
 clear bY
 have d9:=cI.c
 have dG:=cU.bk.c5
 have d4:=ch.bk.c2
 go_wp2_with fail
 clear d9 dG d4
 refine(HX.out v dk cI.out).mono ?_
 rintro e ag ⟨T,J,bl,bF,rfl,s9,cj,t9,cZ⟩
 have cJ:=hid s9
 have df:=hid (cU.go cj)
 have cK:=hid (ch.go cj)
 have dw:=hid (dB.trans cj)
 have d5:=hid t9
 have cl:=hid cZ
 obtain⟨ad,ab,rfl,d1⟩:=t9.lies
 clear s9 t9 cj cZ d1
 have dM:=hid (show w.heap.size<ag.heap.size from df.bk.lt)
 have dH:=hid (show(w.heap.size+1)<ag.heap.size from cK.bk.lt)
 obtain⟨bS,ac⟩:∃W,W=ag.alloc (.cells #[.slice ad J.length ab,.bool bl] 95):=⟨_,rfl⟩
 have bo:Below ag.heap.size ag bS:=by rw[ac];exact(Below.refl _ _).alloc (Nat.le_refl _) _
 have bK:=hid (show Mq w0.heap.size ag.heap.size #[.slice ad J.length ab,.bool bl] 95 bF bS from Mq.of cJ.out (by rw[ac];exact Bk.new _ _ _) (Nat.le_refl _))
 have dL:=hid (show bS.heap.size=ag.heap.size+1 by rw[ac];simp)
 have dh:=hid (cJ.keep bo)
 have bv:=hid (df.keep bo)
 have aj:=hid (cK.keep bo)
 have c9:=hid (d5.out.keep bo)
 have ct:=hid (dw.trans (Gr.quiet bo))
 clear bo
 cases RX with
 |bad m=>
  have Sb:=hid (show Sq w0 l a cap N0 s m true bF bS from dh.out)
  have am:=Sb.c
  have a2:=bv.bk.c5
  have aV:=aj.bk.c2
  have aP:=aj.bk.f
  have aM:=bK.bk.c2
  rw[ac]at am a2 aV aP aM
  go_wp2
  rw[←ac]
  clear am a2 aV aP aM ac
  obtain⟨ds,d0⟩:=(aj.bk.put2 (.slice ad J.length ab) (.bool bl)).c2
  exact bodyPost_ret (v:= .agg #[.slice ad J.length ab,.bool bl]) (by simp[results,Tryz.results111,go_sem,ds,d0]) rfl (rq_end HLT.out Sb.out ct.out aj.out c9.out (by exact Nat.le_succ _) (by exact ch.bk.lt) (cl.out))
 |ok lv tg tx m=>
  have Sb:=hid (show Sq w0 l a cap N0 s m false bF bS from dh.out)
  by_cases h60:kd l m=65
  case neg=>
   have HK:=hid (kind_any _ Sb.out HC.out HL.out)
   have HPR:=hid (show condR E l pi pg (.ok lv tg tx m)= .ok lv tg tx m from if_neg h60)
   obtain⟨c,hcc⟩:∃c,kd l m=c:=⟨_,rfl⟩
   rw[hcc]at HK h60
   obtain⟨q1,q2⟩:=ne_facts h60
   clear h60 hcc
   have am:=Sb.c
   have a2:=bv.bk.c5
   have aV:=aj.bk.c2
   have aP:=aj.bk.f
   have aM:=bK.bk.c2
   rw[ac]at am a2 aV aP aM
   go_wp2_with fail
   rw[←ac]
   clear am a2 aV aP aM ac
   refine(HK.out).mono ?_
   rintro e dt ⟨rfl,O⟩
   have bD:=hid (Sb.keep O)
   have ck:=hid (bv.keep O)
   have a9:=hid (aj.keep O)
   have ci:=hid (bK.keep O)
   have cq:=hid (c9.keep O)
   have c0:=hid (ct.trans (Gr.quiet O))
   clear O
   have cr:=bD.c
   have c8:=ck.bk.c5
   have cn:=a9.bk.c2
   have cz:=a9.bk.f
   have c6:=ci.bk.c2
   go_wp2
   clear cr c8 cn cz c6
   obtain⟨du,dD⟩:=(a9.bk.put2 (.slice ad J.length ab) (.bool bl)).c2
   exact bodyPost_ret (v:= .agg #[.slice ad J.length ab,.bool bl]) (by simp[results,Tryz.results111,go_sem,du,dD]) rfl (by rw[HPR.out];exact rq_end HLT.out (bD.out) c0.out a9.out cq.out (by exact Nat.le_succ _) (by exact ch.bk.lt) (cl.out))
  case pos=>
   have HK:=hid (kind_any _ Sb.out HC.out HL.out)
   rw[h60]at HK
   have HPR:=hid (show condR E l pi pg (.ok lv tg tx m)=cond E l (cp 2 pi pg) tx m from if_pos h60)
   have dr:=hid h60
   have HM:=hid (kd_lt (l:=l) (i:=m) (by omega))
   have HJM:=hid (show j<m from OX.out.1)
   clear h60
   have am:=Sb.c
   have a2:=bv.bk.c5
   have aV:=aj.bk.c2
   have aP:=aj.bk.f
   have aM:=bK.bk.c2
   rw[ac]at am a2 aV aP aM
   go_wp2_with fail
   rw[←ac]
   clear am a2 aV aP aM ac
   refine(HK.out).mono ?_
   rintro e dt ⟨rfl,O⟩
   have bD:=hid (Sb.keep O)
   have ck:=hid (bv.keep O)
   have a9:=hid (aj.keep O)
   have ci:=hid (bK.keep O)
   have cq:=hid (c9.keep O)
   have c0:=hid (ct.trans (Gr.quiet O))
   clear O
   have cr:=bD.c
   have c8:=ck.bk.c5
   have cn:=a9.bk.c2
   have cz:=a9.bk.f
   have c6:=ci.bk.c2
   go_wp2_with fail
   clear cr c8 cn cz c6
   refine(take_yes 65 _ bD.out HC.out HL.out (by decide) (by decide) dr.out).mono ?_
   rintro e dI ⟨rfl,da,bq⟩
   have cF:=hid da
   have cX:=hid (ck.go bq)
   have cx:=hid (a9.go bq)
   have cQ:=hid (ci.go bq)
   have d2:=hid (cq.go bq)
   have d6:=hid (c0.trans bq)
   clear da bq
   have dq:=cF.c
   have dv:=cX.bk.c5
   have dm:=cx.bk.c2
   have dF:=cx.bk.f
   have dC:=cQ.bk.c2
   go_wp2_with fail
   clear dq dv dm dF dC
   refine(part_any _ _ _ _ _ _ _).mono ?_
   rintro e cL ⟨rfl,bi⟩
   have dd:=hid (cF.keep bi)
   have cB:=hid (cX.keep bi)
   have co:=hid (cx.keep bi)
   have dc:=hid (cQ.keep bi)
   have d7:=hid (d2.keep bi)
   have dz:=hid (d6.trans (Gr.quiet bi))
   clear bi
   have dE:=dd.c
   have dp:=cB.bk.c5
   have d8:=co.bk.c2
   have dn:=co.bk.f
   have dl:=dc.bk.c2
   go_wp2_with fail
   clear dE dp d8 dn dl
   obtain⟨RY,hRY⟩:∃R,E (cp 2 pi pg) (m+1)=R:=⟨_,rfl⟩
   have HRY:=hid hRY
   have ORY:=hid (show Ok M l (m+1) RY by rw[←hRY];exact OE.out _ _ HM.out)
   clear hRY
   refine(show Calls _ _ _ _ (Rq w0 l a cap N0 s (m+1) bF cL RY) by rw[←HRY.out];exact HE.out 2 pi pg false (m+1) bF cL (by decide) (by decide) (by have:=HJM.out;omega) dd.out).mono ?_
   rintro e ai ⟨T,N,db,al,rfl,s9,bp,t9,cO⟩
   have dg:=hid s9
   have cD:=hid (cB.go bp)
   have cE:=hid (co.go bp)
   have cA:=hid (dc.go bp)
   have dA:=hid (d7.go bp)
   have dx:=hid (dz.trans bp)
   have d3:=hid t9
   have cY:=hid cO
   obtain⟨a6,aU,rfl,dy⟩:=t9.lies
   clear s9 t9 bp cO dy
   have dJ:=hid (show w.heap.size<ai.heap.size from cD.bk.lt)
   have dK:=hid (show(w.heap.size+1)<ai.heap.size from cE.bk.lt)
   have dN:=hid (show ag.heap.size<ai.heap.size from cA.bk.lt)
   obtain⟨ca,aa⟩:∃W,W=ai.alloc (.cells #[.slice a6 N.length aU,.bool db] 95):=⟨_,rfl⟩
   have aD:Below ai.heap.size ai ca:=by rw[aa];exact(Below.refl _ _).alloc (Nat.le_refl _) _
   have br:=hid (show Mq w0.heap.size ai.heap.size #[.slice a6 N.length aU,.bool db] 95 al ca from Mq.of dg.out (by rw[aa];exact Bk.new _ _ _) (Nat.le_refl _))
   have dO:=hid (show ca.heap.size=ai.heap.size+1 by rw[aa];simp)
   have cW:=hid (dg.keep aD)
   have bn:=hid (cD.keep aD)
   have ak:=hid (cE.keep aD)
   have bm:=hid (cA.keep aD)
   have cm:=hid (dA.keep aD)
   have c7:=hid (d3.out.keep aD)
   have cy:=hid (dx.trans (Gr.quiet aD))
   clear aD
   have HWX:=hid (gt_wk1 cl.out OX.out)
   have HWY:=hid (gt_wk cY.out ORY.out)
   have HOY:=hid (ok_at ORY.out)
   cases RY with
   |bad m1=>
    have Sz:=hid (show Sq w0 l a cap N0 s m1 true al ca from cW.out)
    have HPR:=hid (HPR.trans (cond_bad1 HRY.out))
    have aI:=Sz.c
    have aF:=bn.bk.c5
    have a5:=ak.bk.c2
    have a0:=ak.bk.f
    have aw:=bm.bk.c2
    have bh:=br.bk.c2
    rw[aa]at aI aF a5 a0 aw bh
    go_wp2_with fail
    rw[←aa]
    clear aI aF a5 a0 aw bh aa
    refine(take_no 66 _ Sz.out HC.out HL.out (by decide) (by decide) (.inl rfl)).mono ?_
    rintro e cC ⟨rfl,aK,D⟩
    have bf:=hid aK
    have aC:=hid (bn.go D)
    have ae:=hid (ak.go D)
    have a8:=hid (bm.go D)
    have aY:=hid (br.go D)
    have b4:=hid (cm.go D)
    have bV:=hid (c7.go D)
    have bU:=hid (cy.trans D)
    clear aK D
    have bx:=bf.c
    have bL:=aC.bk.c5
    have b5:=ae.bk.c2
    have cd:=ae.bk.f
    have bX:=a8.bk.c2
    have b9:=aY.bk.c2
    go_wp2_with fail
    clear bx bL b5 cd bX b9
    refine(part_any _ _ _ _ _ _ _).mono ?_
    rintro e bg ⟨rfl,A⟩
    have aQ:=hid (bf.keep A)
    have aA:=hid (aC.keep A)
    have af:=hid (ae.keep A)
    have aS:=hid (a8.keep A)
    have aH:=hid (aY.keep A)
    have bt:=hid (b4.keep A)
    have b2:=hid (bV.keep A)
    have bw:=hid (bU.trans (Gr.quiet A))
    clear A
    have ce:=aQ.c
    have bH:=aA.bk.c5
    have b7:=af.bk.c2
    have b3:=af.bk.f
    have bM:=aS.bk.c2
    have bu:=aH.bk.c2
    go_wp2_with fail
    clear ce bH b7 b3 bM bu
    refine(show Calls _ _ _ _ (Rq w0 l a cap N0 s m1 al bg (.bad m1))from HE.out 2 pi pg true m1 al bg (by decide) (by decide) (by have:=HJM.out;have:=HOY.out;simp only[atQ]at this;omega) aQ.out).mono ?_
    rintro e y ⟨T,C,bc,bG,rfl,s9,F,t9,aE⟩
    have aR:=hid s9
    have aW:=hid (aA.go F)
    have aJ:=hid (af.go F)
    have a3:=hid (aS.go F)
    have aB:=hid (aH.go F)
    have bP:=hid (bt.go F)
    have bs:=hid (b2.go F)
    have bT:=hid (bw.trans F)
    have bz:=hid t9
    have be:=hid aE
    obtain⟨Q,Z,rfl,bQ⟩:=t9.lies
    clear s9 t9 F aE bQ
    have di:=hid (show w.heap.size<y.heap.size from aW.bk.lt)
    have cS:=hid (show(w.heap.size+1)<y.heap.size from aJ.bk.lt)
    have cG:=hid (show ag.heap.size<y.heap.size from a3.bk.lt)
    have cR:=hid (show ai.heap.size<y.heap.size from aB.bk.lt)
    obtain⟨G,K⟩:∃W,W=y.alloc (.cells #[.slice Q C.length Z,.bool bc] 95):=⟨_,rfl⟩
    have o:Below y.heap.size y G:=by rw[K];exact(Below.refl _ _).alloc (Nat.le_refl _) _
    have aZ:=hid (show Mq w0.heap.size y.heap.size #[.slice Q C.length Z,.bool bc] 95 bG G from Mq.of aR.out (by rw[K];exact Bk.new _ _ _) (Nat.le_refl _))
    have cb:=hid (show G.heap.size=y.heap.size+1 by rw[K];simp)
    have ah:=hid (aR.keep o)
    have aT:=hid (aW.keep o)
    have V:=hid (aJ.keep o)
    have a7:=hid (a3.keep o)
    have ap:=hid (aB.keep o)
    have a1:=hid (bP.keep o)
    have aN:=hid (bs.keep o)
    have az:=hid (bz.out.keep o)
    have b0:=hid (bT.trans (Gr.quiet o))
    clear o
    have ao:=ah.c
    have ax:=aT.bk.c5
    have a4:=V.bk.c2
    have aO:=V.bk.f
    have au:=a7.bk.c2
    have aL:=ap.bk.c2
    have ay:=aZ.bk.c2
    rw[K]at ao ax a4 aO au aL ay
    go_wp2_with fail
    rw[←K]
    clear ao ax a4 aO au aL ay K
    have aX:=a1.lies'
    have ba:=aN.lies'
    have bb:=az.lies'
    refine(over3_any cb.out 14 0 ⟨#[]⟩ J N C aX ba bb (wk_mono HWX.out (by have:=bj.out;have:=HM.out;omega)) (wk_mono HWY.out (by have:=bj.out;have:=HOY.out;omega)) (wk_mono (show Wk (2*(m1-m1)) C from be.out) (by omega))).mono ?_
    rintro e bI ⟨T,z,r,rfl,hz,hp,an,hr⟩
    have u3050:=Tq.of (ah.alloc (.cells #[.slice ad J.length ab,.slice a6 N.length aU,.slice Q C.length Z] 26)) hp hr
    rw[hz]at u3050
    have bA:=hid (show(G.alloc (.cells #[.slice ad J.length ab,.slice a6 N.length aU,.slice Q C.length Z] 26)).heap.size=G.heap.size+1 by simp)
    rw[bA.out]at u3050
    have bZ:=hid u3050
    have h:Below G.heap.size G bI:=((Below.refl _ _).alloc (Nat.le_refl _) _).trans (an.mono (by simp))
    have aq:=hid (ah.keep h)
    have b6:=hid (aT.keep h)
    have U:=hid (V.keep h)
    have bN:=hid (a7.keep h)
    have bC:=hid (ap.keep h)
    have bB:=hid (aZ.keep h)
    have de:=hid (a1.keep h)
    have cH:=hid (aN.keep h)
    have cM:=hid (az.keep h)
    have bW:=hid (b0.trans (Gr.quiet h))
    obtain⟨ar,aG,rfl,-⟩:=u3050.lies
    clear u3050 hz hp hr an h aX ba bb
    have cg:=aq.c
    have bO:=b6.bk.c5
    have bJ:=U.bk.c2
    have cc:=U.bk.f
    have bE:=bN.bk.c2
    have b8:=bC.bk.c2
    have cf:=bB.bk.c2
    go_wp2
    clear cg bO bJ cc bE b8 cf
    obtain⟨b1,bR⟩:=(U.bk.put2 (.slice ar (makeT (nd0 14 0 ⟨#[]⟩) [J,N,C]).length aG) (.bool false)).c2
    exact bodyPost_ret (v:= .agg #[.slice ar (makeT (nd0 14 0 ⟨#[]⟩) [J,N,C]).length aG,.bool false]) (by simp[results,Tryz.results111,go_sem,b1,bR]) rfl (by rw[HPR.out];exact rq_end HLT.out (show Sq w0 l a cap N0 s m1 true _ _ from aq.out) bW.out U.out bZ.out (by exact Nat.le_succ _) (by exact Nat.lt_succ_of_lt V.bk.lt) (wk_mono (wk_three HWX.out HWY.out (show Wk (2*(m1-m1)) C from be.out)) (by have:=HJM.out;have:=HOY.out;simp only[atQ]at*;omega)))
   |ok lvy tgy ty m1=>
    have Sz:=hid (show Sq w0 l a cap N0 s m1 false al ca from cW.out)
    by_cases h66:kd l m1=66
    case pos=>
     have HPR:=hid (HPR.trans (cond_over HRY.out h66))
     have cw:=hid h66
     have dj:=hid (kd_lt (l:=l) (i:=m1) (by omega))
     clear h66
     obtain⟨RZ,hRZ⟩:∃R,E (cp 2 pi pg) (m1+1)=R:=⟨_,rfl⟩
     have HRZ:=hid hRZ
     have ORZ:=hid (show Ok M l (m1+1) RZ by rw[←hRZ];exact OE.out _ _ dj.out)
     clear hRZ
     rw[HRZ.out]at HPR
     have aI:=Sz.c
     have aF:=bn.bk.c5
     have a5:=ak.bk.c2
     have a0:=ak.bk.f
     have aw:=bm.bk.c2
     have bh:=br.bk.c2
     rw[aa]at aI aF a5 a0 aw bh
     go_wp2_with fail
     rw[←aa]
     clear aI aF a5 a0 aw bh aa
     refine(take_yes 66 _ Sz.out HC.out HL.out (by decide) (by decide) cw.out).mono ?_
     rintro e cC ⟨rfl,aK,D⟩
     have bf:=hid aK
     have aC:=hid (bn.go D)
     have ae:=hid (ak.go D)
     have a8:=hid (bm.go D)
     have aY:=hid (br.go D)
     have b4:=hid (cm.go D)
     have bV:=hid (c7.go D)
     have bU:=hid (cy.trans D)
     clear aK D
     have bx:=bf.c
     have bL:=aC.bk.c5
     have b5:=ae.bk.c2
     have cd:=ae.bk.f
     have bX:=a8.bk.c2
     have b9:=aY.bk.c2
     go_wp2_with fail
     clear bx bL b5 cd bX b9
     refine(part_any _ _ _ _ _ _ _).mono ?_
     rintro e bg ⟨rfl,A⟩
     have aQ:=hid (bf.keep A)
     have aA:=hid (aC.keep A)
     have af:=hid (ae.keep A)
     have aS:=hid (a8.keep A)
     have aH:=hid (aY.keep A)
     have bt:=hid (b4.keep A)
     have b2:=hid (bV.keep A)
     have bw:=hid (bU.trans (Gr.quiet A))
     clear A
     have ce:=aQ.c
     have bH:=aA.bk.c5
     have b7:=af.bk.c2
     have b3:=af.bk.f
     have bM:=aS.bk.c2
     have bu:=aH.bk.c2
     go_wp2_with fail
     clear ce bH b7 b3 bM bu
     refine(show Calls _ _ _ _ (Rq w0 l a cap N0 s (m1+1) al bg RZ) by rw[←HRZ.out];exact HE.out 2 pi pg false (m1+1) al bg (by decide) (by decide) (by have:=HJM.out;have:=HOY.out;simp only[atQ]at this;omega) aQ.out).mono ?_
     rintro e y ⟨T,C,bc,bG,rfl,s9,F,t9,aE⟩
     have aR:=hid s9
     have aW:=hid (aA.go F)
     have aJ:=hid (af.go F)
     have a3:=hid (aS.go F)
     have aB:=hid (aH.go F)
     have bP:=hid (bt.go F)
     have bs:=hid (b2.go F)
     have bT:=hid (bw.trans F)
     have bz:=hid t9
     have be:=hid aE
     obtain⟨Q,Z,rfl,bQ⟩:=t9.lies
     clear s9 t9 F aE bQ
     have di:=hid (show w.heap.size<y.heap.size from aW.bk.lt)
     have cS:=hid (show(w.heap.size+1)<y.heap.size from aJ.bk.lt)
     have cG:=hid (show ag.heap.size<y.heap.size from a3.bk.lt)
     have cR:=hid (show ai.heap.size<y.heap.size from aB.bk.lt)
     obtain⟨G,K⟩:∃W,W=y.alloc (.cells #[.slice Q C.length Z,.bool bc] 95):=⟨_,rfl⟩
     have o:Below y.heap.size y G:=by rw[K];exact(Below.refl _ _).alloc (Nat.le_refl _) _
     have aZ:=hid (show Mq w0.heap.size y.heap.size #[.slice Q C.length Z,.bool bc] 95 bG G from Mq.of aR.out (by rw[K];exact Bk.new _ _ _) (Nat.le_refl _))
     have cb:=hid (show G.heap.size=y.heap.size+1 by rw[K];simp)
     have ah:=hid (aR.keep o)
     have aT:=hid (aW.keep o)
     have V:=hid (aJ.keep o)
     have a7:=hid (a3.keep o)
     have ap:=hid (aB.keep o)
     have a1:=hid (bP.keep o)
     have aN:=hid (bs.keep o)
     have az:=hid (bz.out.keep o)
     have b0:=hid (bT.trans (Gr.quiet o))
     clear o
     have ao:=ah.c
     have ax:=aT.bk.c5
     have a4:=V.bk.c2
     have aO:=V.bk.f
     have au:=a7.bk.c2
     have aL:=ap.bk.c2
     have ay:=aZ.bk.c2
     rw[K]at ao ax a4 aO au aL ay
     go_wp2_with fail
     rw[←K]
     clear ao ax a4 aO au aL ay K
     have aX:=a1.lies'
     have ba:=aN.lies'
     have bb:=az.lies'
     refine(over3_any cb.out 14 0 ⟨#[]⟩ J N C aX ba bb (wk_mono HWX.out (by have:=bj.out;have:=HM.out;omega)) (wk_mono HWY.out (by have:=bj.out;have:=HOY.out;omega)) (wk_mono (gt_wk be.out ORZ.out) (by have:=bj.out;have:=(ok_at ORZ.out).2;omega))).mono ?_
     rintro e bI ⟨T,z,r,rfl,hz,hp,an,hr⟩
     have u3050:=Tq.of (ah.alloc (.cells #[.slice ad J.length ab,.slice a6 N.length aU,.slice Q C.length Z] 26)) hp hr
     rw[hz]at u3050
     have bA:=hid (show(G.alloc (.cells #[.slice ad J.length ab,.slice a6 N.length aU,.slice Q C.length Z] 26)).heap.size=G.heap.size+1 by simp)
     rw[bA.out]at u3050
     have bZ:=hid u3050
     have h:Below G.heap.size G bI:=((Below.refl _ _).alloc (Nat.le_refl _) _).trans (an.mono (by simp))
     have aq:=hid (ah.keep h)
     have b6:=hid (aT.keep h)
     have U:=hid (V.keep h)
     have bN:=hid (a7.keep h)
     have bC:=hid (ap.keep h)
     have bB:=hid (aZ.keep h)
     have de:=hid (a1.keep h)
     have cH:=hid (aN.keep h)
     have cM:=hid (az.keep h)
     have bW:=hid (b0.trans (Gr.quiet h))
     obtain⟨ar,aG,rfl,-⟩:=u3050.lies
     clear u3050 hz hp hr an h aX ba bb
     have cg:=aq.c
     have bO:=b6.bk.c5
     have bJ:=U.bk.c2
     have cc:=U.bk.f
     have bE:=bN.bk.c2
     have b8:=bC.bk.c2
     have cf:=bB.bk.c2
     go_wp2
     clear cg bO bJ cc bE b8 cf
     obtain⟨b1,bR⟩:=(U.bk.put2 (.slice ar (makeT (nd0 14 0 ⟨#[]⟩) [J,N,C]).length aG) (.bool false)).c2
     exact bodyPost_ret (v:= .agg #[.slice ar (makeT (nd0 14 0 ⟨#[]⟩) [J,N,C]).length aG,.bool false]) (by simp[results,Tryz.results111,go_sem,b1,bR]) rfl (by rw[HPR.out];exact rq_end HLT.out (by simp only[at_over3,bd_over3];exact aq.out) bW.out U.out bZ.out (by exact Nat.le_succ _) (by exact Nat.lt_succ_of_lt V.bk.lt) (gt_over3 cl.out OX.out (Nat.le_succ m) cY.out ORY.out (Nat.le_succ m1) be.out ORZ.out))
    case neg=>
     have HPR:=hid (HPR.trans (cond_bad2 HRY.out h66))
     have cw:=hid h66
     clear h66
     have aI:=Sz.c
     have aF:=bn.bk.c5
     have a5:=ak.bk.c2
     have a0:=ak.bk.f
     have aw:=bm.bk.c2
     have bh:=br.bk.c2
     rw[aa]at aI aF a5 a0 aw bh
     go_wp2_with fail
     rw[←aa]
     clear aI aF a5 a0 aw bh aa
     refine(take_no 66 _ Sz.out HC.out HL.out (by decide) (by decide) (.inr cw.out)).mono ?_
     rintro e cC ⟨rfl,aK,D⟩
     have bf:=hid aK
     have aC:=hid (bn.go D)
     have ae:=hid (ak.go D)
     have a8:=hid (bm.go D)
     have aY:=hid (br.go D)
     have b4:=hid (cm.go D)
     have bV:=hid (c7.go D)
     have bU:=hid (cy.trans D)
     clear aK D
     have bx:=bf.c
     have bL:=aC.bk.c5
     have b5:=ae.bk.c2
     have cd:=ae.bk.f
     have bX:=a8.bk.c2
     have b9:=aY.bk.c2
     go_wp2_with fail
     clear bx bL b5 cd bX b9
     refine(part_any _ _ _ _ _ _ _).mono ?_
     rintro e bg ⟨rfl,A⟩
     have aQ:=hid (bf.keep A)
     have aA:=hid (aC.keep A)
     have af:=hid (ae.keep A)
     have aS:=hid (a8.keep A)
     have aH:=hid (aY.keep A)
     have bt:=hid (b4.keep A)
     have b2:=hid (bV.keep A)
     have bw:=hid (bU.trans (Gr.quiet A))
     clear A
     have ce:=aQ.c
     have bH:=aA.bk.c5
     have b7:=af.bk.c2
     have b3:=af.bk.f
     have bM:=aS.bk.c2
     have bu:=aH.bk.c2
     go_wp2_with fail
     clear ce bH b7 b3 bM bu
     refine(show Calls _ _ _ _ (Rq w0 l a cap N0 s m1 al bg (.bad m1))from HE.out 2 pi pg true m1 al bg (by decide) (by decide) (by have:=HJM.out;have:=HOY.out;simp only[atQ]at this;omega) aQ.out).mono ?_
     rintro e y ⟨T,C,bc,bG,rfl,s9,F,t9,aE⟩
     have aR:=hid s9
     have aW:=hid (aA.go F)
     have aJ:=hid (af.go F)
     have a3:=hid (aS.go F)
     have aB:=hid (aH.go F)
     have bP:=hid (bt.go F)
     have bs:=hid (b2.go F)
     have bT:=hid (bw.trans F)
     have bz:=hid t9
     have be:=hid aE
     obtain⟨Q,Z,rfl,bQ⟩:=t9.lies
     clear s9 t9 F aE bQ
     have di:=hid (show w.heap.size<y.heap.size from aW.bk.lt)
     have cS:=hid (show(w.heap.size+1)<y.heap.size from aJ.bk.lt)
     have cG:=hid (show ag.heap.size<y.heap.size from a3.bk.lt)
     have cR:=hid (show ai.heap.size<y.heap.size from aB.bk.lt)
     obtain⟨G,K⟩:∃W,W=y.alloc (.cells #[.slice Q C.length Z,.bool bc] 95):=⟨_,rfl⟩
     have o:Below y.heap.size y G:=by rw[K];exact(Below.refl _ _).alloc (Nat.le_refl _) _
     have aZ:=hid (show Mq w0.heap.size y.heap.size #[.slice Q C.length Z,.bool bc] 95 bG G from Mq.of aR.out (by rw[K];exact Bk.new _ _ _) (Nat.le_refl _))
     have cb:=hid (show G.heap.size=y.heap.size+1 by rw[K];simp)
     have ah:=hid (aR.keep o)
     have aT:=hid (aW.keep o)
     have V:=hid (aJ.keep o)
     have a7:=hid (a3.keep o)
     have ap:=hid (aB.keep o)
     have a1:=hid (bP.keep o)
     have aN:=hid (bs.keep o)
     have az:=hid (bz.out.keep o)
     have b0:=hid (bT.trans (Gr.quiet o))
     clear o
     have ao:=ah.c
     have ax:=aT.bk.c5
     have a4:=V.bk.c2
     have aO:=V.bk.f
     have au:=a7.bk.c2
     have aL:=ap.bk.c2
     have ay:=aZ.bk.c2
     rw[K]at ao ax a4 aO au aL ay
     go_wp2_with fail
     rw[←K]
     clear ao ax a4 aO au aL ay K
     have aX:=a1.lies'
     have ba:=aN.lies'
     have bb:=az.lies'
     refine(over3_any cb.out 14 0 ⟨#[]⟩ J N C aX ba bb (wk_mono HWX.out (by have:=bj.out;have:=HM.out;omega)) (wk_mono HWY.out (by have:=bj.out;have:=HOY.out;omega)) (wk_mono (show Wk (2*(m1-m1)) C from be.out) (by omega))).mono ?_
     rintro e bI ⟨T,z,r,rfl,hz,hp,an,hr⟩
     have u3050:=Tq.of (ah.alloc (.cells #[.slice ad J.length ab,.slice a6 N.length aU,.slice Q C.length Z] 26)) hp hr
     rw[hz]at u3050
     have bA:=hid (show(G.alloc (.cells #[.slice ad J.length ab,.slice a6 N.length aU,.slice Q C.length Z] 26)).heap.size=G.heap.size+1 by simp)
     rw[bA.out]at u3050
     have bZ:=hid u3050
     have h:Below G.heap.size G bI:=((Below.refl _ _).alloc (Nat.le_refl _) _).trans (an.mono (by simp))
     have aq:=hid (ah.keep h)
     have b6:=hid (aT.keep h)
     have U:=hid (V.keep h)
     have bN:=hid (a7.keep h)
     have bC:=hid (ap.keep h)
     have bB:=hid (aZ.keep h)
     have de:=hid (a1.keep h)
     have cH:=hid (aN.keep h)
     have cM:=hid (az.keep h)
     have bW:=hid (b0.trans (Gr.quiet h))
     obtain⟨ar,aG,rfl,-⟩:=u3050.lies
     clear u3050 hz hp hr an h aX ba bb
     have cg:=aq.c
     have bO:=b6.bk.c5
     have bJ:=U.bk.c2
     have cc:=U.bk.f
     have bE:=bN.bk.c2
     have b8:=bC.bk.c2
     have cf:=bB.bk.c2
     go_wp2
     clear cg bO bJ cc bE b8 cf
     obtain⟨b1,bR⟩:=(U.bk.put2 (.slice ar (makeT (nd0 14 0 ⟨#[]⟩) [J,N,C]).length aG) (.bool false)).c2
     exact bodyPost_ret (v:= .agg #[.slice ar (makeT (nd0 14 0 ⟨#[]⟩) [J,N,C]).length aG,.bool false]) (by simp[results,Tryz.results111,go_sem,b1,bR]) rfl (by rw[HPR.out];exact rq_end HLT.out (show Sq w0 l a cap N0 s m1 true _ _ from aq.out) bW.out U.out bZ.out (by exact Nat.le_succ _) (by exact Nat.lt_succ_of_lt V.bk.lt) (wk_mono (wk_three HWX.out HWY.out (show Wk (2*(m1-m1)) C from be.out)) (by have:=HJM.out;have:=HOY.out;simp only[atQ]at*;omega)))
def assignR(E:Ps→Nat→R)(l:List Tk)(i g:Bool):R→R
 | .bad m=> .bad m
 | .ok lv tg t m=>if(isAsg (kd l m)&&tg)=true then over2 15 (kd l m) t (E (cp 1 i g) (m+1))else .ok lv tg t m
theorem asg_any(c:Int)(w:World):Calls Tryz.prog 174 #[.int .i64 c] w fun e w'=>e= .returned (.bool (isAsg c))∧w=w':=rt.spec_asg c w
set_option maxHeartbeats 6400000 in
theorem assign_any(pl:Int)(pd pi pg psg:Bool)(w:World)(hst:Sq w0 l a cap N0 s j false v w)(hc:tk.Lies w0.heap.size w0 a l)(hl:l.length≤6000)(RX:R)(hX:∀(v:Value) (w:World),Sq w0 l a cap N0 s j false v w→Calls Tryz.prog 63 #[.pointer (some ⟨w0.heap.size,0,none⟩),.agg #[.int .i64 2,.bool false,.bool pi,.bool pg,.bool false]] w (Rq w0 l a cap N0 s j v w RX))(oX:Ok M l j RX)(hE:CallS w0 l a cap N0 s E (j+1))(oE:∀p i,i≤l.length→Ok M l i (E p i)):
  Calls Tryz.prog 110 #[.pointer (some ⟨w0.heap.size,0,none⟩),.agg #[.int .i64 pl,.bool pd,.bool pi,.bool pg,.bool psg]] w (Rq w0 l a cap N0 s j v w (assignR E l pi pg RX)):=by
 have HC:=hid hc
 have HL:=hid (show l.length≤100000 by omega)
 have aS:=hid hl
 have HX:=hid hX
 have OX:=hid oX
 have HE:=hid hE
 have OE:=hid oE
 have HAT:=hid (ok_at oX)
 obtain⟨W,hW⟩:∃W,W=(w.alloc (.cells #[.int .i64 pl,.bool pd,.bool pi,.bool pg,.bool psg] 44)).alloc (.cells #[.slice none 0 0,.bool false] 95):=⟨_,rfl⟩
 have hB:Below w.heap.size w W:=by rw[hW];exact((Below.refl _ _).alloc (Nat.le_refl _) _).alloc (by simp) _
 have P0:=hid (show Mq w0.heap.size w.heap.size #[.int .i64 pl,.bool pd,.bool pi,.bool pg,.bool psg] 44 v W from Mq.of hst (by rw[hW];exact(Bk.new _ _ _).alloc _) (Nat.le_refl _))
 have R0:=hid (show Mq w0.heap.size (w.heap.size+1) #[.slice none 0 0,.bool false] 95 v W from Mq.of hst (by rw[hW];have:=Bk.new (w.alloc (.cells #[.int .i64 pl,.bool pd,.bool pi,.bool pg,.bool psg] 44)) #[.slice none 0 0,.bool false] 95;simpa using this) (Nat.le_succ _))
 have S0:=hid (hst.keep hB)
 have G0:=hid (show Gr (X0 w0.heap.size) v v w W from Gr.quiet hB)
 have HLT:=hid hst.lt
 have HBS:=hid hB.size
 have HJN:=hid hst.jn
 have HWS:=hid (show W.heap.size=w.heap.size+2 by rw[hW];simp)
 clear hB hst
 clear hX oX hE oE hc hl
 obtain⟨c1,c2,c3,c4⟩:=S0.c
 have m5:=P0.bk.c5
 have b0:=R0.bk.c2
 have b3:=R0.bk.f
 rw[hW]at c1 c2 c3 c4 m5 b0 b3
 go_enter Tryz.func110,Tryz.ntmps110
 go_wp2_with fail
 rw[←hW]
 clear c1 c2 c3 c4 m5 b0 b3 hW
 refine(part_any _ _ _ _ _ _ _).mono ?_
 rintro e bL ⟨rfl,aA⟩
 have bg:=hid (S0.keep aA)
 have b2:=hid (P0.keep aA)
 have a3:=hid (R0.keep aA)
 have cB:=hid (G0.trans (Gr.quiet aA))
 clear aA
 have c0:=bg.c
 have cQ:=b2.bk.c5
 have cr:=a3.bk.c2
 go_wp2_with fail
 clear c0 cQ cr
 refine(HX.out v bL bg.out).mono ?_
 rintro e ad ⟨T,o,G,ay,rfl,s9,aD,t9,b8⟩
 have bl:=hid s9
 have bJ:=hid (b2.go aD)
 have bm:=hid (a3.go aD)
 have ce:=hid (cB.trans aD)
 have ct:=hid t9
 have aq:=hid b8
 obtain⟨Z,D,rfl,cn⟩:=t9.lies
 clear s9 t9 aD b8 cn
 have q35hW:=hid (show o.length≤20000 from Nat.le_trans (gt_wk aq.out OX.out).1 (by have:=aS.out;have:=HAT.out;omega))
 have db:=hid (show w.heap.size<ad.heap.size from bJ.bk.lt)
 have cT:=hid (show(w.heap.size+1)<ad.heap.size from bm.bk.lt)
 obtain⟨a9,A⟩:∃W,W=ad.alloc (.cells #[.slice Z o.length D,.bool G] 95):=⟨_,rfl⟩
 have az:Below ad.heap.size ad a9:=by rw[A];exact(Below.refl _ _).alloc (Nat.le_refl _) _
 have am:=hid (show Mq w0.heap.size ad.heap.size #[.slice Z o.length D,.bool G] 95 ay a9 from Mq.of bl.out (by rw[A];exact Bk.new _ _ _) (Nat.le_refl _))
 have da:=hid (show a9.heap.size=ad.heap.size+1 by rw[A];simp)
 have bK:=hid (bl.keep az)
 have ah:=hid (bJ.keep az)
 have C:=hid (bm.keep az)
 have ap:=hid (ct.out.keep az)
 have aB:=hid (ce.trans (Gr.quiet az))
 clear az
 cases RX with
 |bad m=>
  have Sb:=hid (show Sq w0 l a cap N0 s m true ay a9 from bK.out)
  have K:=Sb.c
  have N:=ah.bk.c5
  have U:=C.bk.c2
  have Q:=C.bk.f
  have O:=am.bk.c2
  rw[A]at K N U Q O
  go_wp2
  rw[←A]
  clear K N U Q O A
  obtain⟨bX,cm⟩:=(C.bk.put2 (.slice Z o.length D) (.bool G)).c2
  exact bodyPost_ret (v:= .agg #[.slice Z o.length D,.bool G]) (by simp[results,Tryz.results110,go_sem,bX,cm]) rfl (rq_end HLT.out Sb.out aB.out C.out ap.out (by exact Nat.le_succ _) (by exact a3.bk.lt) (aq.out))
 |ok lv tg tx m=>
  have Sb:=hid (show Sq w0 l a cap N0 s m false ay a9 from bK.out)
  have HTG:=hid (show tg=put G o from aq.out.2)
  have HJM:=hid (show j<m from OX.out.1)
  cases tg with
  |false=>
   have HPR:=hid (show assignR E l pi pg (.ok lv false tx m)= .ok lv false tx m from if_neg (by simp))
   have K:=Sb.c
   have N:=ah.bk.c5
   have U:=C.bk.c2
   have Q:=C.bk.f
   have O:=am.bk.c2
   rw[A]at K N U Q O
   go_wp2_with fail
   rw[←A]
   clear K N U Q O A
   have af:=ap.lies'
   have HPT:=hid (put_any o _ D G _ af (by have:=q35hW.out;omega))
   rw[←HTG.out]at HPT
   clear af
   refine(HPT.out).mono ?_
   rintro e bw ⟨rfl,h⟩
   have V:=hid (Sb.keep h)
   have ag:=hid (ah.keep h)
   have F:=hid (C.keep h)
   have an:=hid (am.keep h)
   have a8:=hid (ap.keep h)
   have a4:=hid (aB.trans (Gr.quiet h))
   clear h
   have a7:=V.c
   have a6:=ag.bk.c5
   have a2:=F.bk.c2
   have a1:=F.bk.f
   have a5:=an.bk.c2
   go_wp2
   clear a7 a6 a2 a1 a5
   obtain⟨cC,cd⟩:=(F.bk.put2 (.slice Z o.length D) (.bool G)).c2
   exact bodyPost_ret (v:= .agg #[.slice Z o.length D,.bool G]) (by simp[results,Tryz.results110,go_sem,cC,cd]) rfl (by rw[HPR.out];exact rq_end HLT.out V.out a4.out F.out a8.out (by exact Nat.le_succ _) (by exact a3.bk.lt) (aq.out))
  |true=>
   obtain⟨c2,ai⟩:∃c2,kd l m=c2:=⟨_,rfl⟩
   have cb:=hid ai
   have aE:=hid (fun W2 (h2:Sq w0 l a cap N0 s m false ay W2)=>kind_any W2 h2 HC.out HL.out)
   rw[ai]at aE
   have HSG:=hid (fun W2=>asg_any c2 W2)
   by_cases hs:isAsg c2=true
   case neg=>
    have hs':isAsg c2=false:=by simpa using hs
    have HPR:=hid (show assignR E l pi pg (.ok lv true tx m)= .ok lv true tx m from if_neg (by rw[ai,hs'];simp))
    rw[hs']at HSG
    clear hs hs' ai
    have K:=Sb.c
    have N:=ah.bk.c5
    have U:=C.bk.c2
    have Q:=C.bk.f
    have O:=am.bk.c2
    rw[A]at K N U Q O
    go_wp2_with fail
    rw[←A]
    clear K N U Q O A
    have af:=ap.lies'
    have HPT:=hid (put_any o _ D G _ af (by have:=q35hW.out;omega))
    rw[←HTG.out]at HPT
    clear af
    refine(HPT.out).mono ?_
    rintro e bw ⟨rfl,h⟩
    have V:=hid (Sb.keep h)
    have ag:=hid (ah.keep h)
    have F:=hid (C.keep h)
    have an:=hid (am.keep h)
    have a8:=hid (ap.keep h)
    have a4:=hid (aB.trans (Gr.quiet h))
    clear h
    have a7:=V.c
    have a6:=ag.bk.c5
    have a2:=F.bk.c2
    have a1:=F.bk.f
    have a5:=an.bk.c2
    go_wp2_with fail
    clear a7 a6 a2 a1 a5
    refine(aE.out _ V.out).mono ?_
    rintro e c6 ⟨rfl,y⟩
    have ab:=hid (V.keep y)
    have a0:=hid (ag.keep y)
    have J:=hid (F.keep y)
    have ax:=hid (an.keep y)
    have aU:=hid (a8.keep y)
    have aV:=hid (a4.trans (Gr.quiet y))
    clear y
    have aK:=ab.c
    have aP:=a0.bk.c5
    have aJ:=J.bk.c2
    have aY:=J.bk.f
    have aW:=ax.bk.c2
    go_wp2_with fail
    clear aK aP aJ aY aW
    refine(HSG.out _).mono ?_
    rintro e ws ⟨rfl,rfl⟩
    have aL:=ab.c
    have aQ:=a0.bk.c5
    have aI:=J.bk.c2
    have aN:=J.bk.f
    have aZ:=ax.bk.c2
    go_wp2
    clear aL aQ aI aN aZ
    obtain⟨co,cq⟩:=(J.bk.put2 (.slice Z o.length D) (.bool G)).c2
    exact bodyPost_ret (v:= .agg #[.slice Z o.length D,.bool G]) (by simp[results,Tryz.results110,go_sem,co,cq]) rfl (by rw[HPR.out];exact rq_end HLT.out ab.out aV.out J.out aU.out (by exact Nat.le_succ _) (by exact a3.bk.lt) (aq.out))
   case pos=>
    have HPR:=hid (show assignR E l pi pg (.ok lv true tx m)=over2 15 c2 tx (E (cp 1 pi pg) (m+1))from by rw[←ai];exact if_pos (by rw[ai,hs];rfl))
    have HV:=hid (asg_vals hs)
    have HM:=hid (kd_lt (l:=l) (i:=m) (by have:=asg_vals hs;omega))
    rw[hs]at HSG
    clear hs ai
    obtain⟨RY,hRY⟩:∃R,E (cp 1 pi pg) (m+1)=R:=⟨_,rfl⟩
    have HRY:=hid hRY
    have ORY:=hid (show Ok M l (m+1) RY by rw[←hRY];exact OE.out _ _ HM.out)
    clear hRY
    rw[HRY.out]at HPR
    have K:=Sb.c
    have N:=ah.bk.c5
    have U:=C.bk.c2
    have Q:=C.bk.f
    have O:=am.bk.c2
    rw[A]at K N U Q O
    go_wp2_with fail
    rw[←A]
    clear K N U Q O A
    have af:=ap.lies'
    have HPT:=hid (put_any o _ D G _ af (by have:=q35hW.out;omega))
    rw[←HTG.out]at HPT
    clear af
    refine(HPT.out).mono ?_
    rintro e bw ⟨rfl,h⟩
    have V:=hid (Sb.keep h)
    have ag:=hid (ah.keep h)
    have F:=hid (C.keep h)
    have an:=hid (am.keep h)
    have a8:=hid (ap.keep h)
    have a4:=hid (aB.trans (Gr.quiet h))
    clear h
    have a7:=V.c
    have a6:=ag.bk.c5
    have a2:=F.bk.c2
    have a1:=F.bk.f
    have a5:=an.bk.c2
    go_wp2_with fail
    clear a7 a6 a2 a1 a5
    refine(aE.out _ V.out).mono ?_
    rintro e c6 ⟨rfl,y⟩
    have ab:=hid (V.keep y)
    have a0:=hid (ag.keep y)
    have J:=hid (F.keep y)
    have ax:=hid (an.keep y)
    have aU:=hid (a8.keep y)
    have aV:=hid (a4.trans (Gr.quiet y))
    clear y
    have aK:=ab.c
    have aP:=a0.bk.c5
    have aJ:=J.bk.c2
    have aY:=J.bk.f
    have aW:=ax.bk.c2
    go_wp2_with fail
    clear aK aP aJ aY aW
    refine(HSG.out _).mono ?_
    rintro e ws ⟨rfl,rfl⟩
    have aL:=ab.c
    have aQ:=a0.bk.c5
    have aI:=J.bk.c2
    have aN:=J.bk.f
    have aZ:=ax.bk.c2
    go_wp2_with fail
    clear aL aQ aI aN aZ
    refine(aE.out _ ab.out).mono ?_
    rintro e dc ⟨rfl,aj⟩
    have bB:=hid (ab.keep aj)
    have b1:=hid (a0.keep aj)
    have aT:=hid (J.keep aj)
    have bv:=hid (ax.keep aj)
    have c7:=hid (aU.keep aj)
    have cM:=hid (aV.trans (Gr.quiet aj))
    clear aj
    have bU:=bB.c
    have bN:=b1.bk.c5
    have ci:=aT.bk.c2
    have cx:=aT.bk.f
    have cl:=bv.bk.c2
    go_wp2_with fail
    clear bU bN ci cx cl
    refine(take_yes c2 _ bB.out HC.out HL.out (by have:=HV.out;omega) (by have:=HV.out;omega) cb.out).mono ?_
    rintro e cW ⟨rfl,bp,aw⟩
    have bt:=hid bp
    have bA:=hid (b1.go aw)
    have aX:=hid (aT.go aw)
    have bh:=hid (bv.go aw)
    have ch:=hid (c7.go aw)
    have cA:=hid (cM.trans aw)
    clear bp aw
    have cH:=bt.c
    have bV:=bA.bk.c5
    have bT:=aX.bk.c2
    have cy:=aX.bk.f
    have ca:=bh.bk.c2
    go_wp2_with fail
    clear cH bV bT cy ca
    refine(part_any _ _ _ _ _ _ _).mono ?_
    rintro e bs ⟨rfl,ak⟩
    have b4:=hid (bt.keep ak)
    have ba:=hid (bA.keep ak)
    have aO:=hid (aX.keep ak)
    have bH:=hid (bh.keep ak)
    have cz:=hid (ch.keep ak)
    have cg:=hid (cA.trans (Gr.quiet ak))
    clear ak
    have cF:=b4.c
    have cf:=ba.bk.c5
    have bP:=aO.bk.c2
    have cc:=aO.bk.f
    have cD:=bH.bk.c2
    go_wp2_with fail
    clear cF cf bP cc cD
    refine(show Calls _ _ _ _ (Rq w0 l a cap N0 s (m+1) ay bs RY) by rw[←HRY.out];exact HE.out 1 pi pg false (m+1) ay bs (by decide) (by decide) (by have:=HJM.out;omega) b4.out).mono ?_
    rintro e ae ⟨T,ao,bi,cj,rfl,s9,au,t9,bu⟩
    have be:=hid s9
    have bq:=hid (ba.go au)
    have bD:=hid (aO.go au)
    have bx:=hid (bH.go au)
    have c8:=hid (cz.go au)
    have bS:=hid (cg.trans au)
    have cK:=hid t9
    have bG:=hid bu
    obtain⟨aF,aC,rfl,cw⟩:=t9.lies
    clear s9 t9 au bu cw
    have cV:=hid (show w.heap.size<ae.heap.size from bq.bk.lt)
    have cU:=hid (show(w.heap.size+1)<ae.heap.size from bD.bk.lt)
    have cX:=hid (show ad.heap.size<ae.heap.size from bx.bk.lt)
    obtain⟨al,ar⟩:∃W,W=ae.alloc (.cells #[.slice aF ao.length aC,.bool bi] 95):=⟨_,rfl⟩
    have ac:Below ae.heap.size ae al:=by rw[ar];exact(Below.refl _ _).alloc (Nat.le_refl _) _
    have bc:=hid (show Mq w0.heap.size ae.heap.size #[.slice aF ao.length aC,.bool bi] 95 cj al from Mq.of be.out (by rw[ar];exact Bk.new _ _ _) (Nat.le_refl _))
    have cG:=hid (show al.heap.size=ae.heap.size+1 by rw[ar];simp)
    have aM:=hid (be.keep ac)
    have b9:=hid (bq.keep ac)
    have aG:=hid (bD.keep ac)
    have bz:=hid (bx.keep ac)
    have b7:=hid (c8.keep ac)
    have bn:=hid (cK.out.keep ac)
    have cL:=hid (bS.trans (Gr.quiet ac))
    clear ac
    have bC:=aM.c
    have br:=b9.bk.c5
    have bb:=aG.bk.c2
    have bF:=aG.bk.f
    have b6:=bz.bk.c2
    have bI:=bc.bk.c2
    rw[ar]at bC br bb bF b6 bI
    go_wp2_with fail
    rw[←ar]
    clear bC br bb bF b6 bI ar
    have bf:=b7.lies'
    have bE:=bn.lies'
    refine(over2_any cG.out 15 c2 ⟨#[]⟩ o ao bf bE (wk_mono (gt_wk aq.out OX.out) (by have:=aS.out;have:=HAT.out;omega)) (wk_mono (gt_wk bG.out ORY.out) (by have:=aS.out;have:=(ok_at ORY.out).2;omega))).mono ?_
    rintro e bM ⟨T,z,r,rfl,hz,hp,bj,hr⟩
    have u2560:=Tq.of (aM.alloc (.cells #[.slice Z o.length D,.slice aF ao.length aC] 26)) hp hr
    rw[hz]at u2560
    have cJ:=hid (show(al.alloc (.cells #[.slice Z o.length D,.slice aF ao.length aC] 26)).heap.size=al.heap.size+1 by simp)
    rw[cJ.out]at u2560
    have bW:=hid u2560
    have aa:Below al.heap.size al bM:=((Below.refl _ _).alloc (Nat.le_refl _) _).trans (bj.mono (by simp))
    have aR:=hid (aM.keep aa)
    have bO:=hid (b9.keep aa)
    have aH:=hid (aG.keep aa)
    have cO:=hid (bz.keep aa)
    have bR:=hid (bc.keep aa)
    have cZ:=hid (b7.keep aa)
    have cY:=hid (bn.keep aa)
    have cE:=hid (cL.trans (Gr.quiet aa))
    obtain⟨b5,bo,rfl,-⟩:=u2560.lies
    clear u2560 hz hp hr bj aa bf bE
    have bZ:=aR.c
    have cS:=bO.bk.c5
    have cR:=aH.bk.c2
    have cI:=aH.bk.f
    have ck:=cO.bk.c2
    have c9:=bR.bk.c2
    go_wp2
    clear bZ cS cR cI ck c9
    obtain⟨bQ,bY⟩:=(aH.bk.put2 (.slice b5 (makeT (nd0 15 c2 ⟨#[]⟩) [o,ao]).length bo) (.bool false)).c2
    exact bodyPost_ret (v:= .agg #[.slice b5 (makeT (nd0 15 c2 ⟨#[]⟩) [o,ao]).length bo,.bool false]) (by simp[results,Tryz.results110,go_sem,bQ,bY]) rfl (by rw[HPR.out];exact rq_end HLT.out (by first|exact aR.out|(simp only[at_over1,bd_over1,at_over2,bd_over2];exact aR.out)) cE.out aH.out bW.out (by exact Nat.le_succ _) (by exact Nat.lt_succ_of_lt aG.bk.lt) (gt_over2 aq.out OX.out (Nat.le_succ m) bG.out ORY.out))
end
end Go.Proofs.YtebjmdpkobhcbaaGreatDoor.qs
