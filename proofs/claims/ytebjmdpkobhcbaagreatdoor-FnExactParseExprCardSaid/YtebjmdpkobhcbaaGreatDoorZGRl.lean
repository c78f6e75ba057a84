/- A part of the proof; no condition of its own. -/
import Derived.Test.YtebjmdpkobhcbaaGreatDoorZGR
namespace Go.Proofs.YtebjmdpkobhcbaaGreatDoor.qs
open Lib (hid)
open Go.ChangeShapes Go.WideShapes Go.ChangeAt Go.RowKit
open tk (Tk)
open nd (Nd PT KidV makeT)
open ps (Ps posOk top)
open pe
open rt (isLval)
open operand (begins)
open lv (opLevel levelOf has)
open pr (Bk Gr X0 below_drewN eq_facts ne_facts fld_k fld_s)
set_option linter.unusedVariables false
set_option linter.unusedSimpArgs false
set_option maxRecDepth 20000
def Tg(g b B:Nat)(T:Value)(t:List Nd)(v:Value)(w:World):Prop:=b<B∧Tqa (fun k=>v.ownBlock=some k∨k=g) B T t w
section
variable {g b B:Nat} {T:Value} {t:List Nd} {v v':Value} {w w':World}
theorem Tg.of(h:Tq b B T t v w):Tg w.heap.size b B T t v w:=by
 obtain⟨hb,z,r,hp,hm,hr,ha⟩:=h
 refine⟨hb,z,r,hp,hm,hr,fun k hk=> ?_⟩
 rcases hk with hk|rfl
 ·exact ha k hk
 ·exact⟨fun e=>by have:=(World.ownsRow.lt hp.own _ e).2;omega,fun j hj e=>by have:=hp.lt j hj;omega⟩
theorem Tg.go(h:Tg g b B T t v w)(e:Gr (X0 b) v v' w w'):Tg g b B T t v' w':=by
 obtain⟨hb,z,r,hp,hm,hr,ha⟩:=h
 have ol:∀k,T.ownBlock=some k→B≤k∧k<w.heap.size:=fun k hk=>World.ownsRow.lt hp.own k hk
 refine⟨hb,z,r,pt_same hp e.size (fun k hk=>e.keep k (ol k hk).2 (by unfold X0;have:=(ol k hk).1;omega) (fun e2=>(ha k (.inl e2.symm)).1 hk)) (fun j hj=>e.keep _ (hp.lt j hj) (by unfold X0;have:=hr j hj;omega) (fun e2=>(ha _ (.inl e2.symm)).2 j hj rfl)),hm,hr,fun k hk=> ?_⟩
 rcases hk with hk|hk
 ·rcases e.own with e2|⟨g2,e2,hg2⟩
  ·exact ha k (.inl (by rw[←e2];exact hk))
  ·rw[e2]at hk
   injection hk with hk
   subst hk
   exact⟨fun h3=>by have:=(ol g2 h3).2;omega,fun j hj h3=>by have:=hp.lt j hj;omega⟩
 ·exact ha k (.inr hk)
theorem Tg.keep(h:Tg g b B T t v w)(hb:Below w.heap.size w w'):Tg g b B T t v w':=h.go (Gr.quiet hb)
theorem Tg.set(h:Tg g b B T t v w)(k:Nat)(u:Value):Tq b B T t v (w.setCell ⟨g,k,none⟩ u):=by
 obtain⟨hb,z,r,hp,hm,hr,ha⟩:=h
 have hk:∀k',k'≠g→(w.setCell ⟨g,k,none⟩ u).heap[k']? =w.heap[k']? :=fun k' h=>heap_setCell_other w ⟨g,k,none⟩ k' u h
 exact⟨hb,z,r,pt_same hp (by simp) (fun k2 o=>hk _ (fun e=>by rw[e]at o;exact(ha g (.inr rfl)).1 o)) (fun j hj=>hk _ (fun e=>(ha g (.inr rfl)).2 j hj e)),hm,hr,fun k2 o=>ha k2 (.inl o)⟩
end
section
variable {w0:World} {l:List Tk} {a:Option Addr} {cap:Nat} {N0:List Tk} {s j:Nat} {v:Value} {E:Ps→Nat→R} {M:Nat}
set_option maxHeartbeats 6400000 in
theorem at_bad(pl:Int)(pd pi pg psg:Bool)(w:World)(hst:Sq w0 l a cap N0 s j true v w):
  Calls Tryz.prog 63 #[.pointer (some ⟨w0.heap.size,0,none⟩),.agg #[.int .i64 pl,.bool pd,.bool pi,.bool pg,.bool psg]] w (Rq w0 l a cap N0 s j v w (.bad j)):=by
 obtain⟨W,hW⟩:∃W,W=(w.alloc (.cells #[.int .i64 pl,.bool pd,.bool pi,.bool pg,.bool psg] 44)).alloc (.cells #[.slice none 0 0,.bool false] 95):=⟨_,rfl⟩
 have hB:Below w.heap.size w W:=by rw[hW];exact((Below.refl _ _).alloc (Nat.le_refl _) _).alloc (by simp) _
 have P0:=hid (show Mq w0.heap.size w.heap.size #[.int .i64 pl,.bool pd,.bool pi,.bool pg,.bool psg] 44 v W from Mq.of hst (by rw[hW];exact(Bk.new _ _ _).alloc _) (Nat.le_refl _))
 have R0:=hid (show Mq w0.heap.size (w.heap.size+1) #[.slice none 0 0,.bool false] 95 v W from Mq.of hst (by rw[hW];have:=Bk.new (w.alloc (.cells #[.int .i64 pl,.bool pd,.bool pi,.bool pg,.bool psg] 44)) #[.slice none 0 0,.bool false] 95;simpa using this) (Nat.le_succ _))
 have S0:=hid (hst.keep hB)
 have G0:=hid (show Gr (X0 w0.heap.size) v v w W from Gr.quiet hB)
 have HLT:=hid hst.lt
 have HBS:=hid hB.size
 have HJN:=hid hst.jn
 have HWS:=hid (show W.heap.size=w.heap.size+2 by rw[hW];simp)
 clear hB hst
 have TN:=hid (Tq.nil S0.out)
 obtain⟨c1,c2,c3,c4⟩:=S0.c
 have m5:=P0.bk.c5
 have h:=R0.bk.c2
 have o:=R0.bk.f
 rw[hW]at c1 c2 c3 c4 m5 h o
 go_enter Tryz.func63,Tryz.ntmps63
 go_wp2
 rw[←hW]
 clear c1 c2 c3 c4 m5 h o hW
 obtain⟨t0,t1⟩:=R0.bk.c2
 exact bodyPost_ret (v:= .agg #[.slice none 0 0,.bool false]) (by simp[results,Tryz.results63,go_sem,t0,t1]) rfl ⟨.slice none 0 0,[],false,v,rfl,S0.out,G0.out,Tq.up TN.out HBS.out HLT.out,(⟨Nat.zero_le _,fun n hn=>by simp at hn⟩:Wk (2*(j-j)) [])⟩
theorem bg_name(hk:kd l j=6):bgR E l (kd l j) top j=nameR E l j:=by
 rw[hk]
 rfl
theorem bg_call{k:Int}(hk:kd l j=k)(h:k=7∨k=8):bgR E l (kd l j) top j=callR E l k j:=by
 rw[hk]
 unfold callR
 rcases h with rfl|rfl
 ·rw[if_neg (fun h=>absurd h.1 (by decide))];rfl
 ·by_cases h:isLen (tx l j)=true∧¬kd l (j+1)=32
  ·rw[if_pos ⟨rfl,h⟩]
   show(if isLen (tx l j)=true∧¬kd l (j+1)=32 then word l 8 j else listed E l 8 32 33 j)=_
   rw[if_pos h]
  ·rw[if_neg (fun h2=>h h2.2)]
   show(if isLen (tx l j)=true∧¬kd l (j+1)=32 then word l 8 j else listed E l 8 32 33 j)=_
   rw[if_neg h]
theorem prim_leaf(h:kd l j=3∨kd l j=4∨kd l j=5∨kd l j=6∨kd l j=7∨kd l j=8):prim E l j=bgR E l (kd l j) top j:=by
 unfold prim
 rw[if_neg (by omega),if_pos h]
def parenR(l:List Tk):R→R
 | .bad m=> .bad m
 | .ok _ _ t m=>if kd l m=33 then .ok 15 false t (m+1)else .bad m
theorem paren_eq:paren E l j=parenR l (E top (j+1)):=by unfold paren parenR;cases E top (j+1)<;>rfl
set_option maxHeartbeats 12800000 in
theorem prim_any(w:World)(hst:Sq w0 l a cap N0 s j false v w)(hc:tk.Lies w0.heap.size w0 a l)(hl:l.length≤6000)(hE:CallS w0 l a cap N0 s E (j+1))(oE:∀p i,i≤l.length→Ok M l i (E p i))(hN0:N0.length+l.length≤200000):
  Calls Tryz.prog 118 #[.pointer (some ⟨w0.heap.size,0,none⟩)] w (Rq w0 l a cap N0 s j v w (prim E l j)):=by
 have HC:=hid hc
 have HL:=hid (show l.length≤100000 by omega)
 have b0:=hid hl
 obtain⟨W,hW⟩:∃W,W=w.alloc (.cells #[.slice none 0 0,.bool false] 95):=⟨_,rfl⟩
 have hB:Below w.heap.size w W:=by rw[hW];exact(Below.refl _ _).alloc (Nat.le_refl _) _
 have R0:=hid (show Mq w0.heap.size w.heap.size #[.slice none 0 0,.bool false] 95 v W from Mq.of hst (by rw[hW];exact Bk.new _ _ _) (Nat.le_refl _))
 have S0:=hid (hst.keep hB)
 have G0:=hid (show Gr (X0 w0.heap.size) v v w W from Gr.quiet hB)
 have HLT:=hid hst.lt
 have HBS:=hid hB.size
 have HJN:=hid hst.jn
 have HWS:=hid (show W.heap.size=w.heap.size+1 by rw[hW];simp)
 clear hB hst
 have HK:=hid (kind_any W S0.out hc (by omega))
 have HLF:=hid (fun k v2 W2 (h2:Sq w0 l a cap N0 s j false v2 W2) hk=>leaf_any k W2 h2 hc hl hk)
 have HNM:=hid (fun v2 W2 (h2:Sq w0 l a cap N0 s j false v2 W2) hk=>name_any W2 h2 hc hl hE oE hN0 hk)
 have HCL:=hid (fun k v2 W2 (h2:Sq w0 l a cap N0 s j false v2 W2) hk hk2=>call_any k W2 h2 hc hl hE oE hN0 hk hk2)
 have HE:=hid hE
 have OE:=hid oE
 clear hc hl hE oE hN0
 by_cases h3:kd l j=3
 case pos=>
  have HPR:=hid (show prim E l j=word l 2 j by rw[prim_leaf (by omega),h3];rfl)
  have HH:=hid h3
  rw[h3]at HK
  clear h3
  obtain⟨c1,c2,c3,c4⟩:=S0.c
  have m5:=R0.bk.c2
  have f7:=R0.bk.f
  rw[hW]at c1 c2 c3 c4 m5 f7
  go_enter Tryz.func118,Tryz.ntmps118
  go_wp2_with fail
  rw[←hW]
  clear c1 c2 c3 c4 m5 f7 hW
  refine(HK.out).mono ?_
  rintro e w9 ⟨rfl,o⟩
  have G:=hid (S0.keep o)
  have A:=hid (R0.keep o)
  have ah:=hid (G0.trans (Gr.quiet o))
  clear o
  have af:=G.c
  have ag:=A.bk.c2
  go_wp2_with fail
  clear af ag
  refine(HLF.out 2 v w9 G.out (by have:=HH.out;omega)).mono ?_
  rintro e aD ⟨T,Z,V,aK,rfl,s9,F,t9,ab⟩
  have ad:=hid s9
  have y:=hid (A.go F)
  have al:=hid (ah.trans F)
  have au:=hid t9
  have ap:=hid ab
  obtain⟨N,Q,rfl,ao⟩:=t9.lies
  clear s9 t9 F ab ao
  have aw:=ad.c
  have am:=y.bk.c2
  have ak:=y.bk.f
  go_wp2
  clear aw am ak
  obtain⟨ax,aq⟩:=(y.bk.put2 (.slice N Z.length Q) (.bool V)).c2
  exact bodyPost_ret (v:= .agg #[.slice N Z.length Q,.bool V]) (by simp[results,Tryz.results118,go_sem,ax,aq]) rfl (by rw[HPR.out];exact rq_end HLT.out ad.out al.out y.out au.out (by exact Nat.le_refl _) (by exact A.bk.lt) (ap.out))
 case neg=>
  by_cases h4:kd l j=4
  case pos=>
   have HPR:=hid (show prim E l j=word l 3 j by rw[prim_leaf (by omega),h4];rfl)
   have HH:=hid h4
   rw[h4]at HK
   clear h4
   obtain⟨c1,c2,c3,c4⟩:=S0.c
   have m5:=R0.bk.c2
   have f7:=R0.bk.f
   rw[hW]at c1 c2 c3 c4 m5 f7
   go_enter Tryz.func118,Tryz.ntmps118
   go_wp2_with fail
   rw[←hW]
   clear c1 c2 c3 c4 m5 f7 hW
   refine(HK.out).mono ?_
   rintro e w9 ⟨rfl,o⟩
   have G:=hid (S0.keep o)
   have A:=hid (R0.keep o)
   have ah:=hid (G0.trans (Gr.quiet o))
   clear o
   have af:=G.c
   have ag:=A.bk.c2
   go_wp2_with fail
   clear af ag
   refine(HLF.out 3 v w9 G.out (by have:=HH.out;omega)).mono ?_
   rintro e aD ⟨T,Z,V,aK,rfl,s9,F,t9,ab⟩
   have ad:=hid s9
   have y:=hid (A.go F)
   have al:=hid (ah.trans F)
   have au:=hid t9
   have ap:=hid ab
   obtain⟨N,Q,rfl,ao⟩:=t9.lies
   clear s9 t9 F ab ao
   have aw:=ad.c
   have am:=y.bk.c2
   have ak:=y.bk.f
   go_wp2
   clear aw am ak
   obtain⟨ax,aq⟩:=(y.bk.put2 (.slice N Z.length Q) (.bool V)).c2
   exact bodyPost_ret (v:= .agg #[.slice N Z.length Q,.bool V]) (by simp[results,Tryz.results118,go_sem,ax,aq]) rfl (by rw[HPR.out];exact rq_end HLT.out ad.out al.out y.out au.out (by exact Nat.le_refl _) (by exact A.bk.lt) (ap.out))
  case neg=>
   by_cases h5:kd l j=5
   case pos=>
    have HPR:=hid (show prim E l j=word l 4 j by rw[prim_leaf (by omega),h5];rfl)
    have HH:=hid h5
    rw[h5]at HK
    clear h5
    obtain⟨c1,c2,c3,c4⟩:=S0.c
    have m5:=R0.bk.c2
    have f7:=R0.bk.f
    rw[hW]at c1 c2 c3 c4 m5 f7
    go_enter Tryz.func118,Tryz.ntmps118
    go_wp2_with fail
    rw[←hW]
    clear c1 c2 c3 c4 m5 f7 hW
    refine(HK.out).mono ?_
    rintro e w9 ⟨rfl,o⟩
    have G:=hid (S0.keep o)
    have A:=hid (R0.keep o)
    have ah:=hid (G0.trans (Gr.quiet o))
    clear o
    have af:=G.c
    have ag:=A.bk.c2
    go_wp2_with fail
    clear af ag
    refine(HLF.out 4 v w9 G.out (by have:=HH.out;omega)).mono ?_
    rintro e aD ⟨T,Z,V,aK,rfl,s9,F,t9,ab⟩
    have ad:=hid s9
    have y:=hid (A.go F)
    have al:=hid (ah.trans F)
    have au:=hid t9
    have ap:=hid ab
    obtain⟨N,Q,rfl,ao⟩:=t9.lies
    clear s9 t9 F ab ao
    have aw:=ad.c
    have am:=y.bk.c2
    have ak:=y.bk.f
    go_wp2
    clear aw am ak
    obtain⟨ax,aq⟩:=(y.bk.put2 (.slice N Z.length Q) (.bool V)).c2
    exact bodyPost_ret (v:= .agg #[.slice N Z.length Q,.bool V]) (by simp[results,Tryz.results118,go_sem,ax,aq]) rfl (by rw[HPR.out];exact rq_end HLT.out ad.out al.out y.out au.out (by exact Nat.le_refl _) (by exact A.bk.lt) (ap.out))
   case neg=>
    by_cases h6:kd l j=6
    case pos=>
     have HPR:=hid (show prim E l j=nameR E l j by rw[prim_leaf (by omega)];exact bg_name h6)
     have HH:=hid h6
     rw[h6]at HK
     clear h6 h3 h4 h5
     obtain⟨c1,c2,c3,c4⟩:=S0.c
     have m5:=R0.bk.c2
     have f7:=R0.bk.f
     rw[hW]at c1 c2 c3 c4 m5 f7
     go_enter Tryz.func118,Tryz.ntmps118
     go_wp2_with fail
     rw[←hW]
     clear c1 c2 c3 c4 m5 f7 hW
     refine(HK.out).mono ?_
     rintro e w9 ⟨rfl,o⟩
     have G:=hid (S0.keep o)
     have A:=hid (R0.keep o)
     have ah:=hid (G0.trans (Gr.quiet o))
     clear o
     have af:=G.c
     have ag:=A.bk.c2
     go_wp2_with fail
     clear af ag
     refine(HNM.out v w9 G.out HH.out).mono ?_
     rintro e aD ⟨T,Z,V,aK,rfl,s9,F,t9,ab⟩
     have ad:=hid s9
     have y:=hid (A.go F)
     have al:=hid (ah.trans F)
     have au:=hid t9
     have ap:=hid ab
     obtain⟨N,Q,rfl,ao⟩:=t9.lies
     clear s9 t9 F ab ao
     have aw:=ad.c
     have am:=y.bk.c2
     have ak:=y.bk.f
     go_wp2
     clear aw am ak
     obtain⟨ax,aq⟩:=(y.bk.put2 (.slice N Z.length Q) (.bool V)).c2
     exact bodyPost_ret (v:= .agg #[.slice N Z.length Q,.bool V]) (by simp[results,Tryz.results118,go_sem,ax,aq]) rfl (by rw[HPR.out];exact rq_end HLT.out ad.out al.out y.out au.out (by exact Nat.le_refl _) (by exact A.bk.lt) (ap.out))
    case neg=>
     by_cases h7:kd l j=7
     case pos=>
      have HPR:=hid (show prim E l j=callR E l 7 j by rw[prim_leaf (by omega)];exact bg_call h7 (by decide))
      have HH:=hid h7
      rw[h7]at HK
      clear h7 h3 h4 h5 h6
      obtain⟨c1,c2,c3,c4⟩:=S0.c
      have m5:=R0.bk.c2
      have f7:=R0.bk.f
      rw[hW]at c1 c2 c3 c4 m5 f7
      go_enter Tryz.func118,Tryz.ntmps118
      go_wp2_with fail
      rw[←hW]
      clear c1 c2 c3 c4 m5 f7 hW
      refine(HK.out).mono ?_
      rintro e w9 ⟨rfl,o⟩
      have G:=hid (S0.keep o)
      have A:=hid (R0.keep o)
      have ah:=hid (G0.trans (Gr.quiet o))
      clear o
      have af:=G.c
      have ag:=A.bk.c2
      go_wp2_with fail
      clear af ag
      refine(HCL.out 7 v w9 G.out HH.out (by decide)).mono ?_
      rintro e aD ⟨T,Z,V,aK,rfl,s9,F,t9,ab⟩
      have ad:=hid s9
      have y:=hid (A.go F)
      have al:=hid (ah.trans F)
      have au:=hid t9
      have ap:=hid ab
      obtain⟨N,Q,rfl,ao⟩:=t9.lies
      clear s9 t9 F ab ao
      have aw:=ad.c
      have am:=y.bk.c2
      have ak:=y.bk.f
      go_wp2
      clear aw am ak
      obtain⟨ax,aq⟩:=(y.bk.put2 (.slice N Z.length Q) (.bool V)).c2
      exact bodyPost_ret (v:= .agg #[.slice N Z.length Q,.bool V]) (by simp[results,Tryz.results118,go_sem,ax,aq]) rfl (by rw[HPR.out];exact rq_end HLT.out ad.out al.out y.out au.out (by exact Nat.le_refl _) (by exact A.bk.lt) (ap.out))
     case neg=>
      by_cases h8:kd l j=8
      case pos=>
       have HPR:=hid (show prim E l j=callR E l 8 j by rw[prim_leaf (by omega)];exact bg_call h8 (by decide))
       have HH:=hid h8
       rw[h8]at HK
       clear h8 h3 h4 h5 h6 h7
       obtain⟨c1,c2,c3,c4⟩:=S0.c
       have m5:=R0.bk.c2
       have f7:=R0.bk.f
       rw[hW]at c1 c2 c3 c4 m5 f7
       go_enter Tryz.func118,Tryz.ntmps118
       go_wp2_with fail
       rw[←hW]
       clear c1 c2 c3 c4 m5 f7 hW
       refine(HK.out).mono ?_
       rintro e w9 ⟨rfl,o⟩
       have G:=hid (S0.keep o)
       have A:=hid (R0.keep o)
       have ah:=hid (G0.trans (Gr.quiet o))
       clear o
       have af:=G.c
       have ag:=A.bk.c2
       go_wp2_with fail
       clear af ag
       refine(HCL.out 8 v w9 G.out HH.out (by decide)).mono ?_
       rintro e aD ⟨T,Z,V,aK,rfl,s9,F,t9,ab⟩
       have ad:=hid s9
       have y:=hid (A.go F)
       have al:=hid (ah.trans F)
       have au:=hid t9
       have ap:=hid ab
       obtain⟨N,Q,rfl,ao⟩:=t9.lies
       clear s9 t9 F ab ao
       have aw:=ad.c
       have am:=y.bk.c2
       have ak:=y.bk.f
       go_wp2
       clear aw am ak
       obtain⟨ax,aq⟩:=(y.bk.put2 (.slice N Z.length Q) (.bool V)).c2
       exact bodyPost_ret (v:= .agg #[.slice N Z.length Q,.bool V]) (by simp[results,Tryz.results118,go_sem,ax,aq]) rfl (by rw[HPR.out];exact rq_end HLT.out ad.out al.out y.out au.out (by exact Nat.le_refl _) (by exact A.bk.lt) (ap.out))
      case neg=>
       obtain⟨c,hcc⟩:∃c,kd l j=c:=⟨_,rfl⟩
       have HCC:=hid hcc
       rw[hcc]at HK h3 h4 h5 h6 h7 h8
       have q3:(c==3)=false:=by rw[beq_eq_false_iff_ne];exact h3
       have q4:(c==4)=false:=by rw[beq_eq_false_iff_ne];exact h4
       have q5:(c==5)=false:=by rw[beq_eq_false_iff_ne];exact h5
       have q6:(c==6)=false:=by rw[beq_eq_false_iff_ne];exact h6
       have q7:(c==7)=false:=by rw[beq_eq_false_iff_ne];exact h7
       have q8:(c==8)=false:=by rw[beq_eq_false_iff_ne];exact h8
       have HNL:=hid (show¬(c=3∨c=4∨c=5∨c=6∨c=7∨c=8) by omega)
       clear hcc h3 h4 h5 h6 h7 h8
       by_cases h32:c=32
       case neg=>
        have HPR:=hid (show prim E l j= .bad j by unfold prim;rw[HCC.out,if_neg h32,if_neg HNL.out])
        have bz:=hid (show¬kd l j=32 by rw[HCC.out];exact h32)
        clear h32
        obtain⟨c1,c2,c3,c4⟩:=S0.c
        have m5:=R0.bk.c2
        have f7:=R0.bk.f
        rw[hW]at c1 c2 c3 c4 m5 f7
        go_enter Tryz.func118,Tryz.ntmps118
        go_wp2_with fail
        rw[←hW]
        clear c1 c2 c3 c4 m5 f7 hW
        refine(HK.out).mono ?_
        rintro e w9 ⟨rfl,o⟩
        have G:=hid (S0.keep o)
        have A:=hid (R0.keep o)
        have ah:=hid (G0.trans (Gr.quiet o))
        clear o
        have af:=G.c
        have ag:=A.bk.c2
        go_wp2_with fail
        clear af ag
        refine(take_no 32 _ G.out HC.out HL.out (by decide) (by decide) (.inr bz.out)).mono ?_
        rintro e aD ⟨rfl,aW,aH⟩
        have aL:=hid aW
        have aS:=hid (A.go aH)
        have bn:=hid (ah.trans aH)
        clear aW aH
        have bu:=aL.c
        have bm:=aS.bk.c2
        go_wp2_with fail
        clear bu bm
        refine(_root_.Go.Proofs.YtebjmdpkobhcbaaGreatDoor.ps.spec_top _).mono ?_
        rintro e be ⟨rfl,ay⟩
        have aV:=hid (aL.keep ay)
        have a5:=hid (aS.keep ay)
        have bl:=hid (bn.trans (Gr.quiet ay))
        clear ay
        have bo:=aV.c
        have bp:=a5.bk.c2
        go_wp2_with fail
        clear bo bp
        refine(show Calls _ _ _ _ (Rq w0 l a cap N0 s j v be (.bad j))from at_bad 1 false false false false be aV.out).mono ?_
        rintro e D ⟨T,J,aY,K,rfl,s9,aF,t9,aU⟩
        have ba:=hid s9
        have bb:=hid (a5.go aF)
        have bq:=hid (bl.trans aF)
        have bs:=hid t9
        have aJ:=hid aU
        obtain⟨U,ac,rfl,bt⟩:=t9.lies
        clear s9 t9 aF aU bt
        have TG:=hid (Tg.of bs.out)
        have aC:=hid (show w.heap.size<D.heap.size from bb.bk.lt)
        obtain⟨a2,ae⟩:∃W,W=D.alloc (.cells #[.slice U J.length ac,.bool aY] 95):=⟨_,rfl⟩
        have ar:Below D.heap.size D a2:=by rw[ae];exact(Below.refl _ _).alloc (Nat.le_refl _) _
        have aG:=hid (show Mq w0.heap.size D.heap.size #[.slice U J.length ac,.bool aY] 95 K a2 from Mq.of ba.out (by rw[ae];exact Bk.new _ _ _) (Nat.le_refl _))
        have bv:=hid (show a2.heap.size=D.heap.size+1 by rw[ae];simp)
        have aI:=hid (ba.keep ar)
        have aE:=hid (bb.keep ar)
        have bj:=hid (TG.keep ar)
        have bi:=hid (bq.trans (Gr.quiet ar))
        clear ar
        have a3:=aI.c
        have a8:=aE.bk.c2
        have a7:=aG.bk.c2
        rw[ae]at a3 a8 a7
        go_wp2_with fail
        rw[←ae]
        clear a3 a8 a7 ae
        refine(take_no 33 _ aI.out HC.out HL.out (by decide) (by decide) (.inl rfl)).mono ?_
        rintro e aZ ⟨rfl,a4,O⟩
        have a0:=hid a4
        have an:=hid (aE.go O)
        have ai:=hid (aG.go O)
        have aX:=hid (bj.go O)
        have aN:=hid (bi.trans O)
        clear a4 O
        have bc:=a0.c
        have bf:=an.bk.c2
        have aP:=an.bk.f
        have aO:=ai.bk.c2
        have aQ:=ai.bk.f
        obtain⟨aa,C⟩:∃W,W=aZ.setCell ⟨D.heap.size,1,none⟩ (.bool true):=⟨_,rfl⟩
        have az:=hid (by rw[C];exact a0.mset ai.out 1 _:Sq w0 l a cap N0 s j true K aa)
        have aM:=hid (by rw[C];exact ai.set 1 (.bool true):Mq w0.heap.size (D.heap.size) #[.slice U J.length ac,.bool true] 95 K aa)
        have aj:=hid (by rw[C];exact an.oth (k:=D.heap.size) (by have:=aC.out;omega) 1 _:Mq w0.heap.size w.heap.size #[.slice none 0 0,.bool false] 95 K aa)
        have aT:=hid (by rw[C];exact aN.set (g:=D.heap.size) (.inr (by have:=aC.out;omega)) 1 _:Gr (X0 w0.heap.size) v K w aa)
        have aR:=hid (by rw[C];exact aX.set 1 _:Tq w0.heap.size _ (.slice U J.length ac) J K aa)
        have aB:=az.c
        have a9:=aj.bk.c2
        have aA:=aj.bk.f
        have a1:=aM.bk.c2
        rw[C]at aB a9 aA a1
        go_wp2
        rw[←C]
        clear bc bf aP aO aQ aB a9 aA a1 C
        obtain⟨bh,bg⟩:=(aj.bk.put2 (.slice U J.length ac) (.bool true)).c2
        exact bodyPost_ret (v:= .agg #[.slice U J.length ac,.bool true]) (by simp[results,Tryz.results118,go_sem,bh,bg]) rfl (by rw[HPR.out];exact rq_end HLT.out az.out aT.out aj.out aR.out (by exact Nat.le_refl _) (by exact a5.bk.lt) ((show Wk (2*(j-j)) J from aJ.out)))
       case pos=>
        subst h32
        have HJ:=hid (kd_lt (l:=l) (i:=j) (by have:=HCC.out;omega))
        obtain⟨RY,hRY⟩:∃R,E top (j+1)=R:=⟨_,rfl⟩
        have HRY:=hid hRY
        have ORY:=hid (show Ok M l (j+1) RY by rw[←hRY];exact OE.out _ _ HJ.out)
        clear hRY
        have br:=hid (show prim E l j=parenR l RY by unfold prim;rw[if_pos HCC.out,paren_eq,HRY.out])
        obtain⟨c1,c2,c3,c4⟩:=S0.c
        have m5:=R0.bk.c2
        have f7:=R0.bk.f
        rw[hW]at c1 c2 c3 c4 m5 f7
        go_enter Tryz.func118,Tryz.ntmps118
        go_wp2_with fail
        rw[←hW]
        clear c1 c2 c3 c4 m5 f7 hW
        refine(HK.out).mono ?_
        rintro e w9 ⟨rfl,o⟩
        have G:=hid (S0.keep o)
        have A:=hid (R0.keep o)
        have ah:=hid (G0.trans (Gr.quiet o))
        clear o
        have af:=G.c
        have ag:=A.bk.c2
        go_wp2_with fail
        clear af ag
        refine(take_yes 32 _ G.out HC.out HL.out (by decide) (by decide) HCC.out).mono ?_
        rintro e aD ⟨rfl,aW,aH⟩
        have aL:=hid aW
        have aS:=hid (A.go aH)
        have bn:=hid (ah.trans aH)
        clear aW aH
        have bu:=aL.c
        have bm:=aS.bk.c2
        go_wp2_with fail
        clear bu bm
        refine(_root_.Go.Proofs.YtebjmdpkobhcbaaGreatDoor.ps.spec_top _).mono ?_
        rintro e be ⟨rfl,ay⟩
        have aV:=hid (aL.keep ay)
        have a5:=hid (aS.keep ay)
        have bl:=hid (bn.trans (Gr.quiet ay))
        clear ay
        have bo:=aV.c
        have bp:=a5.bk.c2
        go_wp2_with fail
        clear bo bp
        refine(show Calls _ _ _ _ (Rq w0 l a cap N0 s (j+1) v be RY) by rw[←HRY.out];exact HE.out 1 false false false (j+1) v be (by decide) (by decide) (by omega) aV.out).mono ?_
        rintro e D ⟨T,J,aY,K,rfl,s9,aF,t9,aU⟩
        have ba:=hid s9
        have bb:=hid (a5.go aF)
        have bq:=hid (bl.trans aF)
        have bs:=hid t9
        have aJ:=hid aU
        obtain⟨U,ac,rfl,bt⟩:=t9.lies
        clear s9 t9 aF aU bt
        have TG:=hid (Tg.of bs.out)
        have HWY:=hid (gt_wk aJ.out ORY.out)
        have HOY:=hid (ok_at ORY.out)
        have aC:=hid (show w.heap.size<D.heap.size from bb.bk.lt)
        obtain⟨a2,ae⟩:∃W,W=D.alloc (.cells #[.slice U J.length ac,.bool aY] 95):=⟨_,rfl⟩
        have ar:Below D.heap.size D a2:=by rw[ae];exact(Below.refl _ _).alloc (Nat.le_refl _) _
        have aG:=hid (show Mq w0.heap.size D.heap.size #[.slice U J.length ac,.bool aY] 95 K a2 from Mq.of ba.out (by rw[ae];exact Bk.new _ _ _) (Nat.le_refl _))
        have bv:=hid (show a2.heap.size=D.heap.size+1 by rw[ae];simp)
        have aI:=hid (ba.keep ar)
        have aE:=hid (bb.keep ar)
        have bj:=hid (TG.keep ar)
        have bi:=hid (bq.trans (Gr.quiet ar))
        clear ar
        by_cases a6:bdQ RY=false∧kd l (atQ RY)=33
        case pos=>
         obtain⟨hbd,a6⟩:=a6
         obtain⟨lv,tg,t0,m1,hry⟩:∃lv tg t m1,RY= .ok lv tg t m1:=by
          cases RY with
          |bad m1=>cases hbd
          |ok lv tg t m1=>exact⟨lv,tg,t,m1,rfl⟩
         clear hbd
         subst hry
         have HPR:=hid (br.trans (show parenR l (.ok lv tg t0 m1)= .ok 15 false t0 (m1+1)from if_pos a6))
         have bx:=hid (show kd l m1=33 from a6)
         have bw:=hid (show J=t0 from aJ.out.1)
         have Sz:=hid (show Sq w0 l a cap N0 s m1 false K a2 from aI.out)
         clear a6
         have a3:=Sz.c
         have a8:=aE.bk.c2
         have a7:=aG.bk.c2
         rw[ae]at a3 a8 a7
         go_wp2_with fail
         rw[←ae]
         clear a3 a8 a7 ae
         refine(take_yes 33 _ Sz.out HC.out HL.out (by decide) (by decide) bx.out).mono ?_
         rintro e aZ ⟨rfl,a4,O⟩
         have a0:=hid a4
         have an:=hid (aE.go O)
         have ai:=hid (aG.go O)
         have aX:=hid (bj.go O)
         have aN:=hid (bi.trans O)
         clear a4 O
         have bc:=a0.c
         have bf:=an.bk.c2
         have aP:=an.bk.f
         have aO:=ai.bk.c2
         have aQ:=ai.bk.f
         obtain⟨aa,C⟩:∃W,W=aZ.setCell ⟨D.heap.size,1,none⟩ (.bool true):=⟨_,rfl⟩
         have az:=hid (by rw[C];exact a0.mset ai.out 1 _:Sq w0 l a cap N0 s (m1+1) false K aa)
         have aM:=hid (by rw[C];exact ai.set 1 (.bool true):Mq w0.heap.size (D.heap.size) #[.slice U J.length ac,.bool true] 95 K aa)
         have aj:=hid (by rw[C];exact an.oth (k:=D.heap.size) (by have:=aC.out;omega) 1 _:Mq w0.heap.size w.heap.size #[.slice none 0 0,.bool false] 95 K aa)
         have aT:=hid (by rw[C];exact aN.set (g:=D.heap.size) (.inr (by have:=aC.out;omega)) 1 _:Gr (X0 w0.heap.size) v K w aa)
         have aR:=hid (by rw[C];exact aX.set 1 _:Tq w0.heap.size _ (.slice U J.length ac) J K aa)
         have aB:=az.c
         have a9:=aj.bk.c2
         have aA:=aj.bk.f
         have a1:=aM.bk.c2
         rw[C]at aB a9 aA a1
         go_wp2
         rw[←C]
         clear bc bf aP aO aQ aB a9 aA a1 C
         obtain⟨bh,bg⟩:=(aj.bk.put2 (.slice U J.length ac) (.bool true)).c2
         exact bodyPost_ret (v:= .agg #[.slice U J.length ac,.bool true]) (by simp[results,Tryz.results118,go_sem,bh,bg]) rfl (by rw[HPR.out];exact rq_end HLT.out az.out aT.out aj.out aR.out (by exact Nat.le_refl _) (by exact a5.bk.lt) (⟨bw.out,rfl⟩))
        case neg=>
         have HPR:=hid (br.trans (show parenR l RY= .bad (atQ RY) by
          clear HWY HOY ORY HRY br aJ
          cases RY with
          |bad m1=>rfl
          |ok lv tg t m1=>exact if_neg (fun h=>a6 ⟨rfl,h⟩)))
         have HNA:=hid (show bdQ RY=true∨¬kd l (atQ RY)=33 by
          cases hb:bdQ RY with
          |true=>exact .inl rfl
          |false=>exact .inr (fun h=>a6 ⟨hb,h⟩))
         clear a6
         have a3:=aI.c
         have a8:=aE.bk.c2
         have a7:=aG.bk.c2
         rw[ae]at a3 a8 a7
         go_wp2_with fail
         rw[←ae]
         clear a3 a8 a7 ae
         refine(take_no 33 _ aI.out HC.out HL.out (by decide) (by decide) HNA.out).mono ?_
         rintro e aZ ⟨rfl,a4,O⟩
         have a0:=hid a4
         have an:=hid (aE.go O)
         have ai:=hid (aG.go O)
         have aX:=hid (bj.go O)
         have aN:=hid (bi.trans O)
         clear a4 O
         have bc:=a0.c
         have bf:=an.bk.c2
         have aP:=an.bk.f
         have aO:=ai.bk.c2
         have aQ:=ai.bk.f
         obtain⟨aa,C⟩:∃W,W=aZ.setCell ⟨D.heap.size,1,none⟩ (.bool true):=⟨_,rfl⟩
         have az:=hid (by rw[C];exact a0.mset ai.out 1 _:Sq w0 l a cap N0 s (atQ RY) true K aa)
         have aM:=hid (by rw[C];exact ai.set 1 (.bool true):Mq w0.heap.size (D.heap.size) #[.slice U J.length ac,.bool true] 95 K aa)
         have aj:=hid (by rw[C];exact an.oth (k:=D.heap.size) (by have:=aC.out;omega) 1 _:Mq w0.heap.size w.heap.size #[.slice none 0 0,.bool false] 95 K aa)
         have aT:=hid (by rw[C];exact aN.set (g:=D.heap.size) (.inr (by have:=aC.out;omega)) 1 _:Gr (X0 w0.heap.size) v K w aa)
         have aR:=hid (by rw[C];exact aX.set 1 _:Tq w0.heap.size _ (.slice U J.length ac) J K aa)
         have aB:=az.c
         have a9:=aj.bk.c2
         have aA:=aj.bk.f
         have a1:=aM.bk.c2
         rw[C]at aB a9 aA a1
         go_wp2
         rw[←C]
         clear bc bf aP aO aQ aB a9 aA a1 C
         obtain⟨bh,bg⟩:=(aj.bk.put2 (.slice U J.length ac) (.bool true)).c2
         exact bodyPost_ret (v:= .agg #[.slice U J.length ac,.bool true]) (by simp[results,Tryz.results118,go_sem,bh,bg]) rfl (by rw[HPR.out];exact rq_end HLT.out az.out aT.out aj.out aR.out (by exact Nat.le_refl _) (by exact a5.bk.lt) (wk_mono HWY.out (by have:=HOY.out;omega)))
end
end Go.Proofs.YtebjmdpkobhcbaaGreatDoor.qs

namespace Go.Proofs.YtebjmdpkobhcbaaGreatDoor.qs
open Lib (hid)
open Go.ChangeShapes Go.WideShapes Go.ChangeAt Go.RowKit
open tk (Tk)
open nd (Nd PT KidV makeT)
open ps (Ps posOk top)
open pe
open rt (isLval)
open operand (begins)
open lv (opLevel levelOf has)
open pr (Bk Gr X0 below_drewN eq_facts ne_facts fld_k fld_s)
set_option linter.unusedVariables false
set_option linter.unusedSimpArgs false
set_option maxRecDepth 20000
section
variable {w0:World} {l:List Tk} {a:Option Addr} {cap:Nat} {N0:List Tk} {s j:Nat} {v:Value} {E:Ps→Nat→R} {M:Nat}
set_option maxHeartbeats 6400000 in
theorem at_15(pd pi pg psg:Bool)(w:World)(hst:Sq w0 l a cap N0 s j false v w)(RX:R)(hF:∀(v:Value) (w:World),Sq w0 l a cap N0 s j false v w→Calls Tryz.prog 118 #[.pointer (some ⟨w0.heap.size,0,none⟩)] w (Rq w0 l a cap N0 s j v w RX)):
  Calls Tryz.prog 63 #[.pointer (some ⟨w0.heap.size,0,none⟩),.agg #[.int .i64 15,.bool pd,.bool pi,.bool pg,.bool psg]] w (Rq w0 l a cap N0 s j v w RX):=by
 have HF:=hid hF
 obtain⟨W,hW⟩:∃W,W=(w.alloc (.cells #[.int .i64 15,.bool pd,.bool pi,.bool pg,.bool psg] 44)).alloc (.cells #[.slice none 0 0,.bool false] 95):=⟨_,rfl⟩
 have hB:Below w.heap.size w W:=by rw[hW];exact((Below.refl _ _).alloc (Nat.le_refl _) _).alloc (by simp) _
 have P0:=hid (show Mq w0.heap.size w.heap.size #[.int .i64 15,.bool pd,.bool pi,.bool pg,.bool psg] 44 v W from Mq.of hst (by rw[hW];exact(Bk.new _ _ _).alloc _) (Nat.le_refl _))
 have R0:=hid (show Mq w0.heap.size (w.heap.size+1) #[.slice none 0 0,.bool false] 95 v W from Mq.of hst (by rw[hW];have:=Bk.new (w.alloc (.cells #[.int .i64 15,.bool pd,.bool pi,.bool pg,.bool psg] 44)) #[.slice none 0 0,.bool false] 95;simpa using this) (Nat.le_succ _))
 have S0:=hid (hst.keep hB)
 have G0:=hid (show Gr (X0 w0.heap.size) v v w W from Gr.quiet hB)
 have HLT:=hid hst.lt
 have HBS:=hid hB.size
 have HJN:=hid hst.jn
 have HWS:=hid (show W.heap.size=w.heap.size+2 by rw[hW];simp)
 clear hB hst
 clear hF
 obtain⟨c1,c2,c3,c4⟩:=S0.c
 have m5:=P0.bk.c5
 have K:=R0.bk.c2
 have J:=R0.bk.f
 rw[hW]at c1 c2 c3 c4 m5 K J
 go_enter Tryz.func63,Tryz.ntmps63
 go_wp2_with fail
 rw[←hW]
 clear c1 c2 c3 c4 m5 K J hW
 refine(HF.out v W S0.out).mono ?_
 rintro e ag ⟨T,G,A,af,rfl,s9,h,t9,F⟩
 have y:=hid s9
 have ac:=hid (P0.go h)
 have o:=hid (R0.go h)
 have Z:=hid (G0.trans h)
 have V:=hid t9
 have ad:=hid F
 obtain⟨C,D,rfl,Q⟩:=t9.lies
 clear s9 t9 h F Q
 have O:=y.c
 have N:=ac.bk.c5
 have ab:=o.bk.c2
 have U:=o.bk.f
 go_wp2
 clear O N ab U
 obtain⟨ae,aa⟩:=(o.bk.put2 (.slice C G.length D) (.bool A)).c2
 exact bodyPost_ret (v:= .agg #[.slice C G.length D,.bool A]) (by simp[results,Tryz.results63,go_sem,ae,aa]) rfl (rq_end HLT.out y.out Z.out o.out V.out (by exact Nat.le_succ _) (by exact R0.bk.lt) (ad.out))
set_option maxHeartbeats 6400000 in
theorem at_14(pd pi pg psg:Bool)(w:World)(hst:Sq w0 l a cap N0 s j false v w)(RX:R)(hF:∀(v:Value) (w:World),Sq w0 l a cap N0 s j false v w→Calls Tryz.prog 117 #[.pointer (some ⟨w0.heap.size,0,none⟩),.agg #[.int .i64 14,.bool pd,.bool pi,.bool pg,.bool psg]] w (Rq w0 l a cap N0 s j v w RX)):
  Calls Tryz.prog 63 #[.pointer (some ⟨w0.heap.size,0,none⟩),.agg #[.int .i64 14,.bool pd,.bool pi,.bool pg,.bool psg]] w (Rq w0 l a cap N0 s j v w RX):=by
 have HF:=hid hF
 obtain⟨W,hW⟩:∃W,W=(w.alloc (.cells #[.int .i64 14,.bool pd,.bool pi,.bool pg,.bool psg] 44)).alloc (.cells #[.slice none 0 0,.bool false] 95):=⟨_,rfl⟩
 have hB:Below w.heap.size w W:=by rw[hW];exact((Below.refl _ _).alloc (Nat.le_refl _) _).alloc (by simp) _
 have P0:=hid (show Mq w0.heap.size w.heap.size #[.int .i64 14,.bool pd,.bool pi,.bool pg,.bool psg] 44 v W from Mq.of hst (by rw[hW];exact(Bk.new _ _ _).alloc _) (Nat.le_refl _))
 have R0:=hid (show Mq w0.heap.size (w.heap.size+1) #[.slice none 0 0,.bool false] 95 v W from Mq.of hst (by rw[hW];have:=Bk.new (w.alloc (.cells #[.int .i64 14,.bool pd,.bool pi,.bool pg,.bool psg] 44)) #[.slice none 0 0,.bool false] 95;simpa using this) (Nat.le_succ _))
 have S0:=hid (hst.keep hB)
 have G0:=hid (show Gr (X0 w0.heap.size) v v w W from Gr.quiet hB)
 have HLT:=hid hst.lt
 have HBS:=hid hB.size
 have HJN:=hid hst.jn
 have HWS:=hid (show W.heap.size=w.heap.size+2 by rw[hW];simp)
 clear hB hst
 clear hF
 obtain⟨c1,c2,c3,c4⟩:=S0.c
 have m5:=P0.bk.c5
 have K:=R0.bk.c2
 have J:=R0.bk.f
 rw[hW]at c1 c2 c3 c4 m5 K J
 go_enter Tryz.func63,Tryz.ntmps63
 go_wp2_with fail
 rw[←hW]
 clear c1 c2 c3 c4 m5 K J hW
 refine(HF.out v W S0.out).mono ?_
 rintro e ag ⟨T,G,A,af,rfl,s9,h,t9,F⟩
 have y:=hid s9
 have ac:=hid (P0.go h)
 have o:=hid (R0.go h)
 have Z:=hid (G0.trans h)
 have V:=hid t9
 have ad:=hid F
 obtain⟨C,D,rfl,Q⟩:=t9.lies
 clear s9 t9 h F Q
 have O:=y.c
 have N:=ac.bk.c5
 have ab:=o.bk.c2
 have U:=o.bk.f
 go_wp2
 clear O N ab U
 obtain⟨ae,aa⟩:=(o.bk.put2 (.slice C G.length D) (.bool A)).c2
 exact bodyPost_ret (v:= .agg #[.slice C G.length D,.bool A]) (by simp[results,Tryz.results63,go_sem,ae,aa]) rfl (rq_end HLT.out y.out Z.out o.out V.out (by exact Nat.le_succ _) (by exact R0.bk.lt) (ad.out))
set_option maxHeartbeats 6400000 in
theorem at_13(pd pi pg psg:Bool)(w:World)(hst:Sq w0 l a cap N0 s j false v w)(RX:R)(hF:∀(v:Value) (w:World),Sq w0 l a cap N0 s j false v w→Calls Tryz.prog 116 #[.pointer (some ⟨w0.heap.size,0,none⟩),.agg #[.int .i64 13,.bool pd,.bool pi,.bool pg,.bool psg]] w (Rq w0 l a cap N0 s j v w RX)):
  Calls Tryz.prog 63 #[.pointer (some ⟨w0.heap.size,0,none⟩),.agg #[.int .i64 13,.bool pd,.bool pi,.bool pg,.bool psg]] w (Rq w0 l a cap N0 s j v w RX):=by
 have HF:=hid hF
 obtain⟨W,hW⟩:∃W,W=(w.alloc (.cells #[.int .i64 13,.bool pd,.bool pi,.bool pg,.bool psg] 44)).alloc (.cells #[.slice none 0 0,.bool false] 95):=⟨_,rfl⟩
 have hB:Below w.heap.size w W:=by rw[hW];exact((Below.refl _ _).alloc (Nat.le_refl _) _).alloc (by simp) _
 have P0:=hid (show Mq w0.heap.size w.heap.size #[.int .i64 13,.bool pd,.bool pi,.bool pg,.bool psg] 44 v W from Mq.of hst (by rw[hW];exact(Bk.new _ _ _).alloc _) (Nat.le_refl _))
 have R0:=hid (show Mq w0.heap.size (w.heap.size+1) #[.slice none 0 0,.bool false] 95 v W from Mq.of hst (by rw[hW];have:=Bk.new (w.alloc (.cells #[.int .i64 13,.bool pd,.bool pi,.bool pg,.bool psg] 44)) #[.slice none 0 0,.bool false] 95;simpa using this) (Nat.le_succ _))
 have S0:=hid (hst.keep hB)
 have G0:=hid (show Gr (X0 w0.heap.size) v v w W from Gr.quiet hB)
 have HLT:=hid hst.lt
 have HBS:=hid hB.size
 have HJN:=hid hst.jn
 have HWS:=hid (show W.heap.size=w.heap.size+2 by rw[hW];simp)
 clear hB hst
 clear hF
 obtain⟨c1,c2,c3,c4⟩:=S0.c
 have m5:=P0.bk.c5
 have K:=R0.bk.c2
 have J:=R0.bk.f
 rw[hW]at c1 c2 c3 c4 m5 K J
 go_enter Tryz.func63,Tryz.ntmps63
 go_wp2_with fail
 rw[←hW]
 clear c1 c2 c3 c4 m5 K J hW
 refine(HF.out v W S0.out).mono ?_
 rintro e ag ⟨T,G,A,af,rfl,s9,h,t9,F⟩
 have y:=hid s9
 have ac:=hid (P0.go h)
 have o:=hid (R0.go h)
 have Z:=hid (G0.trans h)
 have V:=hid t9
 have ad:=hid F
 obtain⟨C,D,rfl,Q⟩:=t9.lies
 clear s9 t9 h F Q
 have O:=y.c
 have N:=ac.bk.c5
 have ab:=o.bk.c2
 have U:=o.bk.f
 go_wp2
 clear O N ab U
 obtain⟨ae,aa⟩:=(o.bk.put2 (.slice C G.length D) (.bool A)).c2
 exact bodyPost_ret (v:= .agg #[.slice C G.length D,.bool A]) (by simp[results,Tryz.results63,go_sem,ae,aa]) rfl (rq_end HLT.out y.out Z.out o.out V.out (by exact Nat.le_succ _) (by exact R0.bk.lt) (ad.out))
set_option maxHeartbeats 6400000 in
theorem at_12(pd pi pg psg:Bool)(w:World)(hst:Sq w0 l a cap N0 s j false v w)(RX:R)(hF:∀(v:Value) (w:World),Sq w0 l a cap N0 s j false v w→Calls Tryz.prog 115 #[.pointer (some ⟨w0.heap.size,0,none⟩),.agg #[.int .i64 12,.bool pd,.bool pi,.bool pg,.bool psg]] w (Rq w0 l a cap N0 s j v w RX)):
  Calls Tryz.prog 63 #[.pointer (some ⟨w0.heap.size,0,none⟩),.agg #[.int .i64 12,.bool pd,.bool pi,.bool pg,.bool psg]] w (Rq w0 l a cap N0 s j v w RX):=by
 have HF:=hid hF
 obtain⟨W,hW⟩:∃W,W=(w.alloc (.cells #[.int .i64 12,.bool pd,.bool pi,.bool pg,.bool psg] 44)).alloc (.cells #[.slice none 0 0,.bool false] 95):=⟨_,rfl⟩
 have hB:Below w.heap.size w W:=by rw[hW];exact((Below.refl _ _).alloc (Nat.le_refl _) _).alloc (by simp) _
 have P0:=hid (show Mq w0.heap.size w.heap.size #[.int .i64 12,.bool pd,.bool pi,.bool pg,.bool psg] 44 v W from Mq.of hst (by rw[hW];exact(Bk.new _ _ _).alloc _) (Nat.le_refl _))
 have R0:=hid (show Mq w0.heap.size (w.heap.size+1) #[.slice none 0 0,.bool false] 95 v W from Mq.of hst (by rw[hW];have:=Bk.new (w.alloc (.cells #[.int .i64 12,.bool pd,.bool pi,.bool pg,.bool psg] 44)) #[.slice none 0 0,.bool false] 95;simpa using this) (Nat.le_succ _))
 have S0:=hid (hst.keep hB)
 have G0:=hid (show Gr (X0 w0.heap.size) v v w W from Gr.quiet hB)
 have HLT:=hid hst.lt
 have HBS:=hid hB.size
 have HJN:=hid hst.jn
 have HWS:=hid (show W.heap.size=w.heap.size+2 by rw[hW];simp)
 clear hB hst
 clear hF
 obtain⟨c1,c2,c3,c4⟩:=S0.c
 have m5:=P0.bk.c5
 have K:=R0.bk.c2
 have J:=R0.bk.f
 rw[hW]at c1 c2 c3 c4 m5 K J
 go_enter Tryz.func63,Tryz.ntmps63
 go_wp2_with fail
 rw[←hW]
 clear c1 c2 c3 c4 m5 K J hW
 refine(HF.out v W S0.out).mono ?_
 rintro e ag ⟨T,G,A,af,rfl,s9,h,t9,F⟩
 have y:=hid s9
 have ac:=hid (P0.go h)
 have o:=hid (R0.go h)
 have Z:=hid (G0.trans h)
 have V:=hid t9
 have ad:=hid F
 obtain⟨C,D,rfl,Q⟩:=t9.lies
 clear s9 t9 h F Q
 have O:=y.c
 have N:=ac.bk.c5
 have ab:=o.bk.c2
 have U:=o.bk.f
 go_wp2
 clear O N ab U
 obtain⟨ae,aa⟩:=(o.bk.put2 (.slice C G.length D) (.bool A)).c2
 exact bodyPost_ret (v:= .agg #[.slice C G.length D,.bool A]) (by simp[results,Tryz.results63,go_sem,ae,aa]) rfl (rq_end HLT.out y.out Z.out o.out V.out (by exact Nat.le_succ _) (by exact R0.bk.lt) (ad.out))
set_option maxHeartbeats 6400000 in
theorem at_11(pd pi pg psg:Bool)(w:World)(hst:Sq w0 l a cap N0 s j false v w)(RX:R)(hF:∀(v:Value) (w:World),Sq w0 l a cap N0 s j false v w→Calls Tryz.prog 114 #[.pointer (some ⟨w0.heap.size,0,none⟩),.agg #[.int .i64 11,.bool pd,.bool pi,.bool pg,.bool psg]] w (Rq w0 l a cap N0 s j v w RX)):
  Calls Tryz.prog 63 #[.pointer (some ⟨w0.heap.size,0,none⟩),.agg #[.int .i64 11,.bool pd,.bool pi,.bool pg,.bool psg]] w (Rq w0 l a cap N0 s j v w RX):=by
 have HF:=hid hF
 obtain⟨W,hW⟩:∃W,W=(w.alloc (.cells #[.int .i64 11,.bool pd,.bool pi,.bool pg,.bool psg] 44)).alloc (.cells #[.slice none 0 0,.bool false] 95):=⟨_,rfl⟩
 have hB:Below w.heap.size w W:=by rw[hW];exact((Below.refl _ _).alloc (Nat.le_refl _) _).alloc (by simp) _
 have P0:=hid (show Mq w0.heap.size w.heap.size #[.int .i64 11,.bool pd,.bool pi,.bool pg,.bool psg] 44 v W from Mq.of hst (by rw[hW];exact(Bk.new _ _ _).alloc _) (Nat.le_refl _))
 have R0:=hid (show Mq w0.heap.size (w.heap.size+1) #[.slice none 0 0,.bool false] 95 v W from Mq.of hst (by rw[hW];have:=Bk.new (w.alloc (.cells #[.int .i64 11,.bool pd,.bool pi,.bool pg,.bool psg] 44)) #[.slice none 0 0,.bool false] 95;simpa using this) (Nat.le_succ _))
 have S0:=hid (hst.keep hB)
 have G0:=hid (show Gr (X0 w0.heap.size) v v w W from Gr.quiet hB)
 have HLT:=hid hst.lt
 have HBS:=hid hB.size
 have HJN:=hid hst.jn
 have HWS:=hid (show W.heap.size=w.heap.size+2 by rw[hW];simp)
 clear hB hst
 clear hF
 obtain⟨c1,c2,c3,c4⟩:=S0.c
 have m5:=P0.bk.c5
 have K:=R0.bk.c2
 have J:=R0.bk.f
 rw[hW]at c1 c2 c3 c4 m5 K J
 go_enter Tryz.func63,Tryz.ntmps63
 go_wp2_with fail
 rw[←hW]
 clear c1 c2 c3 c4 m5 K J hW
 refine(HF.out v W S0.out).mono ?_
 rintro e ag ⟨T,G,A,af,rfl,s9,h,t9,F⟩
 have y:=hid s9
 have ac:=hid (P0.go h)
 have o:=hid (R0.go h)
 have Z:=hid (G0.trans h)
 have V:=hid t9
 have ad:=hid F
 obtain⟨C,D,rfl,Q⟩:=t9.lies
 clear s9 t9 h F Q
 have O:=y.c
 have N:=ac.bk.c5
 have ab:=o.bk.c2
 have U:=o.bk.f
 go_wp2
 clear O N ab U
 obtain⟨ae,aa⟩:=(o.bk.put2 (.slice C G.length D) (.bool A)).c2
 exact bodyPost_ret (v:= .agg #[.slice C G.length D,.bool A]) (by simp[results,Tryz.results63,go_sem,ae,aa]) rfl (rq_end HLT.out y.out Z.out o.out V.out (by exact Nat.le_succ _) (by exact R0.bk.lt) (ad.out))
set_option maxHeartbeats 6400000 in
theorem at_5(pd pi pg psg:Bool)(w:World)(hst:Sq w0 l a cap N0 s j false v w)(RX:R)(hF:∀(v:Value) (w:World),Sq w0 l a cap N0 s j false v w→Calls Tryz.prog 112 #[.pointer (some ⟨w0.heap.size,0,none⟩),.agg #[.int .i64 5,.bool pd,.bool pi,.bool pg,.bool psg]] w (Rq w0 l a cap N0 s j v w RX)):
  Calls Tryz.prog 63 #[.pointer (some ⟨w0.heap.size,0,none⟩),.agg #[.int .i64 5,.bool pd,.bool pi,.bool pg,.bool psg]] w (Rq w0 l a cap N0 s j v w RX):=by
 have HF:=hid hF
 obtain⟨W,hW⟩:∃W,W=(w.alloc (.cells #[.int .i64 5,.bool pd,.bool pi,.bool pg,.bool psg] 44)).alloc (.cells #[.slice none 0 0,.bool false] 95):=⟨_,rfl⟩
 have hB:Below w.heap.size w W:=by rw[hW];exact((Below.refl _ _).alloc (Nat.le_refl _) _).alloc (by simp) _
 have P0:=hid (show Mq w0.heap.size w.heap.size #[.int .i64 5,.bool pd,.bool pi,.bool pg,.bool psg] 44 v W from Mq.of hst (by rw[hW];exact(Bk.new _ _ _).alloc _) (Nat.le_refl _))
 have R0:=hid (show Mq w0.heap.size (w.heap.size+1) #[.slice none 0 0,.bool false] 95 v W from Mq.of hst (by rw[hW];have:=Bk.new (w.alloc (.cells #[.int .i64 5,.bool pd,.bool pi,.bool pg,.bool psg] 44)) #[.slice none 0 0,.bool false] 95;simpa using this) (Nat.le_succ _))
 have S0:=hid (hst.keep hB)
 have G0:=hid (show Gr (X0 w0.heap.size) v v w W from Gr.quiet hB)
 have HLT:=hid hst.lt
 have HBS:=hid hB.size
 have HJN:=hid hst.jn
 have HWS:=hid (show W.heap.size=w.heap.size+2 by rw[hW];simp)
 clear hB hst
 clear hF
 obtain⟨c1,c2,c3,c4⟩:=S0.c
 have m5:=P0.bk.c5
 have K:=R0.bk.c2
 have J:=R0.bk.f
 rw[hW]at c1 c2 c3 c4 m5 K J
 go_enter Tryz.func63,Tryz.ntmps63
 go_wp2_with fail
 rw[←hW]
 clear c1 c2 c3 c4 m5 K J hW
 refine(HF.out v W S0.out).mono ?_
 rintro e ag ⟨T,G,A,af,rfl,s9,h,t9,F⟩
 have y:=hid s9
 have ac:=hid (P0.go h)
 have o:=hid (R0.go h)
 have Z:=hid (G0.trans h)
 have V:=hid t9
 have ad:=hid F
 obtain⟨C,D,rfl,Q⟩:=t9.lies
 clear s9 t9 h F Q
 have O:=y.c
 have N:=ac.bk.c5
 have ab:=o.bk.c2
 have U:=o.bk.f
 go_wp2
 clear O N ab U
 obtain⟨ae,aa⟩:=(o.bk.put2 (.slice C G.length D) (.bool A)).c2
 exact bodyPost_ret (v:= .agg #[.slice C G.length D,.bool A]) (by simp[results,Tryz.results63,go_sem,ae,aa]) rfl (rq_end HLT.out y.out Z.out o.out V.out (by exact Nat.le_succ _) (by exact R0.bk.lt) (ad.out))
set_option maxHeartbeats 6400000 in
theorem at_2(pd pi pg psg:Bool)(w:World)(hst:Sq w0 l a cap N0 s j false v w)(RX:R)(hF:∀(v:Value) (w:World),Sq w0 l a cap N0 s j false v w→Calls Tryz.prog 111 #[.pointer (some ⟨w0.heap.size,0,none⟩),.agg #[.int .i64 2,.bool pd,.bool pi,.bool pg,.bool psg]] w (Rq w0 l a cap N0 s j v w RX)):
  Calls Tryz.prog 63 #[.pointer (some ⟨w0.heap.size,0,none⟩),.agg #[.int .i64 2,.bool pd,.bool pi,.bool pg,.bool psg]] w (Rq w0 l a cap N0 s j v w RX):=by
 have HF:=hid hF
 obtain⟨W,hW⟩:∃W,W=(w.alloc (.cells #[.int .i64 2,.bool pd,.bool pi,.bool pg,.bool psg] 44)).alloc (.cells #[.slice none 0 0,.bool false] 95):=⟨_,rfl⟩
 have hB:Below w.heap.size w W:=by rw[hW];exact((Below.refl _ _).alloc (Nat.le_refl _) _).alloc (by simp) _
 have P0:=hid (show Mq w0.heap.size w.heap.size #[.int .i64 2,.bool pd,.bool pi,.bool pg,.bool psg] 44 v W from Mq.of hst (by rw[hW];exact(Bk.new _ _ _).alloc _) (Nat.le_refl _))
 have R0:=hid (show Mq w0.heap.size (w.heap.size+1) #[.slice none 0 0,.bool false] 95 v W from Mq.of hst (by rw[hW];have:=Bk.new (w.alloc (.cells #[.int .i64 2,.bool pd,.bool pi,.bool pg,.bool psg] 44)) #[.slice none 0 0,.bool false] 95;simpa using this) (Nat.le_succ _))
 have S0:=hid (hst.keep hB)
 have G0:=hid (show Gr (X0 w0.heap.size) v v w W from Gr.quiet hB)
 have HLT:=hid hst.lt
 have HBS:=hid hB.size
 have HJN:=hid hst.jn
 have HWS:=hid (show W.heap.size=w.heap.size+2 by rw[hW];simp)
 clear hB hst
 clear hF
 obtain⟨c1,c2,c3,c4⟩:=S0.c
 have m5:=P0.bk.c5
 have K:=R0.bk.c2
 have J:=R0.bk.f
 rw[hW]at c1 c2 c3 c4 m5 K J
 go_enter Tryz.func63,Tryz.ntmps63
 go_wp2_with fail
 rw[←hW]
 clear c1 c2 c3 c4 m5 K J hW
 refine(HF.out v W S0.out).mono ?_
 rintro e ag ⟨T,G,A,af,rfl,s9,h,t9,F⟩
 have y:=hid s9
 have ac:=hid (P0.go h)
 have o:=hid (R0.go h)
 have Z:=hid (G0.trans h)
 have V:=hid t9
 have ad:=hid F
 obtain⟨C,D,rfl,Q⟩:=t9.lies
 clear s9 t9 h F Q
 have O:=y.c
 have N:=ac.bk.c5
 have ab:=o.bk.c2
 have U:=o.bk.f
 go_wp2
 clear O N ab U
 obtain⟨ae,aa⟩:=(o.bk.put2 (.slice C G.length D) (.bool A)).c2
 exact bodyPost_ret (v:= .agg #[.slice C G.length D,.bool A]) (by simp[results,Tryz.results63,go_sem,ae,aa]) rfl (rq_end HLT.out y.out Z.out o.out V.out (by exact Nat.le_succ _) (by exact R0.bk.lt) (ad.out))
set_option maxHeartbeats 6400000 in
theorem at_1(pd pi pg psg:Bool)(w:World)(hst:Sq w0 l a cap N0 s j false v w)(RX:R)(hF:∀(v:Value) (w:World),Sq w0 l a cap N0 s j false v w→Calls Tryz.prog 110 #[.pointer (some ⟨w0.heap.size,0,none⟩),.agg #[.int .i64 1,.bool pd,.bool pi,.bool pg,.bool psg]] w (Rq w0 l a cap N0 s j v w RX)):
  Calls Tryz.prog 63 #[.pointer (some ⟨w0.heap.size,0,none⟩),.agg #[.int .i64 1,.bool pd,.bool pi,.bool pg,.bool psg]] w (Rq w0 l a cap N0 s j v w RX):=by
 have HF:=hid hF
 obtain⟨W,hW⟩:∃W,W=(w.alloc (.cells #[.int .i64 1,.bool pd,.bool pi,.bool pg,.bool psg] 44)).alloc (.cells #[.slice none 0 0,.bool false] 95):=⟨_,rfl⟩
 have hB:Below w.heap.size w W:=by rw[hW];exact((Below.refl _ _).alloc (Nat.le_refl _) _).alloc (by simp) _
 have P0:=hid (show Mq w0.heap.size w.heap.size #[.int .i64 1,.bool pd,.bool pi,.bool pg,.bool psg] 44 v W from Mq.of hst (by rw[hW];exact(Bk.new _ _ _).alloc _) (Nat.le_refl _))
 have R0:=hid (show Mq w0.heap.size (w.heap.size+1) #[.slice none 0 0,.bool false] 95 v W from Mq.of hst (by rw[hW];have:=Bk.new (w.alloc (.cells #[.int .i64 1,.bool pd,.bool pi,.bool pg,.bool psg] 44)) #[.slice none 0 0,.bool false] 95;simpa using this) (Nat.le_succ _))
 have S0:=hid (hst.keep hB)
 have G0:=hid (show Gr (X0 w0.heap.size) v v w W from Gr.quiet hB)
 have HLT:=hid hst.lt
 have HBS:=hid hB.size
 have HJN:=hid hst.jn
 have HWS:=hid (show W.heap.size=w.heap.size+2 by rw[hW];simp)
 clear hB hst
 clear hF
 obtain⟨c1,c2,c3,c4⟩:=S0.c
 have m5:=P0.bk.c5
 have K:=R0.bk.c2
 have J:=R0.bk.f
 rw[hW]at c1 c2 c3 c4 m5 K J
 go_enter Tryz.func63,Tryz.ntmps63
 go_wp2_with fail
 rw[←hW]
 clear c1 c2 c3 c4 m5 K J hW
 refine(HF.out v W S0.out).mono ?_
 rintro e ag ⟨T,G,A,af,rfl,s9,h,t9,F⟩
 have y:=hid s9
 have ac:=hid (P0.go h)
 have o:=hid (R0.go h)
 have Z:=hid (G0.trans h)
 have V:=hid t9
 have ad:=hid F
 obtain⟨C,D,rfl,Q⟩:=t9.lies
 clear s9 t9 h F Q
 have O:=y.c
 have N:=ac.bk.c5
 have ab:=o.bk.c2
 have U:=o.bk.f
 go_wp2
 clear O N ab U
 obtain⟨ae,aa⟩:=(o.bk.put2 (.slice C G.length D) (.bool A)).c2
 exact bodyPost_ret (v:= .agg #[.slice C G.length D,.bool A]) (by simp[results,Tryz.results63,go_sem,ae,aa]) rfl (rq_end HLT.out y.out Z.out o.out V.out (by exact Nat.le_succ _) (by exact R0.bk.lt) (ad.out))
end
end Go.Proofs.YtebjmdpkobhcbaaGreatDoor.qs

namespace Go.Proofs.YtebjmdpkobhcbaaGreatDoor.qs
open Lib (hid)
open Go.ChangeShapes Go.WideShapes Go.ChangeAt Go.RowKit
open tk (Tk)
open nd (Nd PT KidV makeT)
open ps (Ps posOk top)
open pe
open rt (isLval)
open operand (begins)
open lv (opLevel levelOf has)
open pr (Bk Gr X0 below_drewN eq_facts ne_facts fld_k fld_s)
set_option linter.unusedVariables false
set_option linter.unusedSimpArgs false
set_option maxRecDepth 20000
section
variable {w0:World} {l:List Tk} {a:Option Addr} {cap:Nat} {N0:List Tk} {s j:Nat} {v:Value} {E:Ps→Nat→R} {M:Nat}
set_option maxHeartbeats 6400000 in
theorem at_10(pd pi pg psg:Bool)(w:World)(hst:Sq w0 l a cap N0 s j false v w)(RX:R)(hF:∀(v:Value) (w:World),Sq w0 l a cap N0 s j false v w→Calls Tryz.prog 113 #[.pointer (some ⟨w0.heap.size,0,none⟩),.agg #[.int .i64 10,.bool pd,.bool pi,.bool pg,.bool psg],.int .i64 10,.int .i64 3000] w (Rq w0 l a cap N0 s j v w RX)):
  Calls Tryz.prog 63 #[.pointer (some ⟨w0.heap.size,0,none⟩),.agg #[.int .i64 10,.bool pd,.bool pi,.bool pg,.bool psg]] w (Rq w0 l a cap N0 s j v w RX):=by
 have HF:=hid hF
 obtain⟨W,hW⟩:∃W,W=(w.alloc (.cells #[.int .i64 10,.bool pd,.bool pi,.bool pg,.bool psg] 44)).alloc (.cells #[.slice none 0 0,.bool false] 95):=⟨_,rfl⟩
 have hB:Below w.heap.size w W:=by rw[hW];exact((Below.refl _ _).alloc (Nat.le_refl _) _).alloc (by simp) _
 have P0:=hid (show Mq w0.heap.size w.heap.size #[.int .i64 10,.bool pd,.bool pi,.bool pg,.bool psg] 44 v W from Mq.of hst (by rw[hW];exact(Bk.new _ _ _).alloc _) (Nat.le_refl _))
 have R0:=hid (show Mq w0.heap.size (w.heap.size+1) #[.slice none 0 0,.bool false] 95 v W from Mq.of hst (by rw[hW];have:=Bk.new (w.alloc (.cells #[.int .i64 10,.bool pd,.bool pi,.bool pg,.bool psg] 44)) #[.slice none 0 0,.bool false] 95;simpa using this) (Nat.le_succ _))
 have S0:=hid (hst.keep hB)
 have G0:=hid (show Gr (X0 w0.heap.size) v v w W from Gr.quiet hB)
 have HLT:=hid hst.lt
 have HBS:=hid hB.size
 have HJN:=hid hst.jn
 have HWS:=hid (show W.heap.size=w.heap.size+2 by rw[hW];simp)
 clear hB hst
 clear hF
 obtain⟨c1,c2,c3,c4⟩:=S0.c
 have m5:=P0.bk.c5
 have K:=R0.bk.c2
 have J:=R0.bk.f
 rw[hW]at c1 c2 c3 c4 m5 K J
 go_enter Tryz.func63,Tryz.ntmps63
 go_wp2_with fail
 rw[←hW]
 clear c1 c2 c3 c4 m5 K J hW
 refine(HF.out v W S0.out).mono ?_
 rintro e ag ⟨T,G,A,af,rfl,s9,h,t9,F⟩
 have y:=hid s9
 have ac:=hid (P0.go h)
 have o:=hid (R0.go h)
 have Z:=hid (G0.trans h)
 have V:=hid t9
 have ad:=hid F
 obtain⟨C,D,rfl,Q⟩:=t9.lies
 clear s9 t9 h F Q
 have O:=y.c
 have N:=ac.bk.c5
 have ab:=o.bk.c2
 have U:=o.bk.f
 go_wp2
 clear O N ab U
 obtain⟨ae,aa⟩:=(o.bk.put2 (.slice C G.length D) (.bool A)).c2
 exact bodyPost_ret (v:= .agg #[.slice C G.length D,.bool A]) (by simp[results,Tryz.results63,go_sem,ae,aa]) rfl (rq_end HLT.out y.out Z.out o.out V.out (by exact Nat.le_succ _) (by exact R0.bk.lt) (ad.out))
set_option maxHeartbeats 6400000 in
theorem at_9(pd pi pg psg:Bool)(w:World)(hst:Sq w0 l a cap N0 s j false v w)(RX:R)(hF:∀(v:Value) (w:World),Sq w0 l a cap N0 s j false v w→Calls Tryz.prog 113 #[.pointer (some ⟨w0.heap.size,0,none⟩),.agg #[.int .i64 9,.bool pd,.bool pi,.bool pg,.bool psg],.int .i64 9,.int .i64 3000] w (Rq w0 l a cap N0 s j v w RX)):
  Calls Tryz.prog 63 #[.pointer (some ⟨w0.heap.size,0,none⟩),.agg #[.int .i64 9,.bool pd,.bool pi,.bool pg,.bool psg]] w (Rq w0 l a cap N0 s j v w RX):=by
 have HF:=hid hF
 obtain⟨W,hW⟩:∃W,W=(w.alloc (.cells #[.int .i64 9,.bool pd,.bool pi,.bool pg,.bool psg] 44)).alloc (.cells #[.slice none 0 0,.bool false] 95):=⟨_,rfl⟩
 have hB:Below w.heap.size w W:=by rw[hW];exact((Below.refl _ _).alloc (Nat.le_refl _) _).alloc (by simp) _
 have P0:=hid (show Mq w0.heap.size w.heap.size #[.int .i64 9,.bool pd,.bool pi,.bool pg,.bool psg] 44 v W from Mq.of hst (by rw[hW];exact(Bk.new _ _ _).alloc _) (Nat.le_refl _))
 have R0:=hid (show Mq w0.heap.size (w.heap.size+1) #[.slice none 0 0,.bool false] 95 v W from Mq.of hst (by rw[hW];have:=Bk.new (w.alloc (.cells #[.int .i64 9,.bool pd,.bool pi,.bool pg,.bool psg] 44)) #[.slice none 0 0,.bool false] 95;simpa using this) (Nat.le_succ _))
 have S0:=hid (hst.keep hB)
 have G0:=hid (show Gr (X0 w0.heap.size) v v w W from Gr.quiet hB)
 have HLT:=hid hst.lt
 have HBS:=hid hB.size
 have HJN:=hid hst.jn
 have HWS:=hid (show W.heap.size=w.heap.size+2 by rw[hW];simp)
 clear hB hst
 clear hF
 obtain⟨c1,c2,c3,c4⟩:=S0.c
 have m5:=P0.bk.c5
 have K:=R0.bk.c2
 have J:=R0.bk.f
 rw[hW]at c1 c2 c3 c4 m5 K J
 go_enter Tryz.func63,Tryz.ntmps63
 go_wp2_with fail
 rw[←hW]
 clear c1 c2 c3 c4 m5 K J hW
 refine(HF.out v W S0.out).mono ?_
 rintro e ag ⟨T,G,A,af,rfl,s9,h,t9,F⟩
 have y:=hid s9
 have ac:=hid (P0.go h)
 have o:=hid (R0.go h)
 have Z:=hid (G0.trans h)
 have V:=hid t9
 have ad:=hid F
 obtain⟨C,D,rfl,Q⟩:=t9.lies
 clear s9 t9 h F Q
 have O:=y.c
 have N:=ac.bk.c5
 have ab:=o.bk.c2
 have U:=o.bk.f
 go_wp2
 clear O N ab U
 obtain⟨ae,aa⟩:=(o.bk.put2 (.slice C G.length D) (.bool A)).c2
 exact bodyPost_ret (v:= .agg #[.slice C G.length D,.bool A]) (by simp[results,Tryz.results63,go_sem,ae,aa]) rfl (rq_end HLT.out y.out Z.out o.out V.out (by exact Nat.le_succ _) (by exact R0.bk.lt) (ad.out))
set_option maxHeartbeats 6400000 in
theorem at_8(pd pi pg psg:Bool)(w:World)(hst:Sq w0 l a cap N0 s j false v w)(RX:R)(hF:∀(v:Value) (w:World),Sq w0 l a cap N0 s j false v w→Calls Tryz.prog 113 #[.pointer (some ⟨w0.heap.size,0,none⟩),.agg #[.int .i64 8,.bool pd,.bool pi,.bool pg,.bool psg],.int .i64 8,.int .i64 3000] w (Rq w0 l a cap N0 s j v w RX)):
  Calls Tryz.prog 63 #[.pointer (some ⟨w0.heap.size,0,none⟩),.agg #[.int .i64 8,.bool pd,.bool pi,.bool pg,.bool psg]] w (Rq w0 l a cap N0 s j v w RX):=by
 have HF:=hid hF
 obtain⟨W,hW⟩:∃W,W=(w.alloc (.cells #[.int .i64 8,.bool pd,.bool pi,.bool pg,.bool psg] 44)).alloc (.cells #[.slice none 0 0,.bool false] 95):=⟨_,rfl⟩
 have hB:Below w.heap.size w W:=by rw[hW];exact((Below.refl _ _).alloc (Nat.le_refl _) _).alloc (by simp) _
 have P0:=hid (show Mq w0.heap.size w.heap.size #[.int .i64 8,.bool pd,.bool pi,.bool pg,.bool psg] 44 v W from Mq.of hst (by rw[hW];exact(Bk.new _ _ _).alloc _) (Nat.le_refl _))
 have R0:=hid (show Mq w0.heap.size (w.heap.size+1) #[.slice none 0 0,.bool false] 95 v W from Mq.of hst (by rw[hW];have:=Bk.new (w.alloc (.cells #[.int .i64 8,.bool pd,.bool pi,.bool pg,.bool psg] 44)) #[.slice none 0 0,.bool false] 95;simpa using this) (Nat.le_succ _))
 have S0:=hid (hst.keep hB)
 have G0:=hid (show Gr (X0 w0.heap.size) v v w W from Gr.quiet hB)
 have HLT:=hid hst.lt
 have HBS:=hid hB.size
 have HJN:=hid hst.jn
 have HWS:=hid (show W.heap.size=w.heap.size+2 by rw[hW];simp)
 clear hB hst
 clear hF
 obtain⟨c1,c2,c3,c4⟩:=S0.c
 have m5:=P0.bk.c5
 have K:=R0.bk.c2
 have J:=R0.bk.f
 rw[hW]at c1 c2 c3 c4 m5 K J
 go_enter Tryz.func63,Tryz.ntmps63
 go_wp2_with fail
 rw[←hW]
 clear c1 c2 c3 c4 m5 K J hW
 refine(HF.out v W S0.out).mono ?_
 rintro e ag ⟨T,G,A,af,rfl,s9,h,t9,F⟩
 have y:=hid s9
 have ac:=hid (P0.go h)
 have o:=hid (R0.go h)
 have Z:=hid (G0.trans h)
 have V:=hid t9
 have ad:=hid F
 obtain⟨C,D,rfl,Q⟩:=t9.lies
 clear s9 t9 h F Q
 have O:=y.c
 have N:=ac.bk.c5
 have ab:=o.bk.c2
 have U:=o.bk.f
 go_wp2
 clear O N ab U
 obtain⟨ae,aa⟩:=(o.bk.put2 (.slice C G.length D) (.bool A)).c2
 exact bodyPost_ret (v:= .agg #[.slice C G.length D,.bool A]) (by simp[results,Tryz.results63,go_sem,ae,aa]) rfl (rq_end HLT.out y.out Z.out o.out V.out (by exact Nat.le_succ _) (by exact R0.bk.lt) (ad.out))
set_option maxHeartbeats 6400000 in
theorem at_7(pd pi pg psg:Bool)(w:World)(hst:Sq w0 l a cap N0 s j false v w)(RX:R)(hF:∀(v:Value) (w:World),Sq w0 l a cap N0 s j false v w→Calls Tryz.prog 113 #[.pointer (some ⟨w0.heap.size,0,none⟩),.agg #[.int .i64 7,.bool pd,.bool pi,.bool pg,.bool psg],.int .i64 7,.int .i64 1] w (Rq w0 l a cap N0 s j v w RX)):
  Calls Tryz.prog 63 #[.pointer (some ⟨w0.heap.size,0,none⟩),.agg #[.int .i64 7,.bool pd,.bool pi,.bool pg,.bool psg]] w (Rq w0 l a cap N0 s j v w RX):=by
 have HF:=hid hF
 obtain⟨W,hW⟩:∃W,W=(w.alloc (.cells #[.int .i64 7,.bool pd,.bool pi,.bool pg,.bool psg] 44)).alloc (.cells #[.slice none 0 0,.bool false] 95):=⟨_,rfl⟩
 have hB:Below w.heap.size w W:=by rw[hW];exact((Below.refl _ _).alloc (Nat.le_refl _) _).alloc (by simp) _
 have P0:=hid (show Mq w0.heap.size w.heap.size #[.int .i64 7,.bool pd,.bool pi,.bool pg,.bool psg] 44 v W from Mq.of hst (by rw[hW];exact(Bk.new _ _ _).alloc _) (Nat.le_refl _))
 have R0:=hid (show Mq w0.heap.size (w.heap.size+1) #[.slice none 0 0,.bool false] 95 v W from Mq.of hst (by rw[hW];have:=Bk.new (w.alloc (.cells #[.int .i64 7,.bool pd,.bool pi,.bool pg,.bool psg] 44)) #[.slice none 0 0,.bool false] 95;simpa using this) (Nat.le_succ _))
 have S0:=hid (hst.keep hB)
 have G0:=hid (show Gr (X0 w0.heap.size) v v w W from Gr.quiet hB)
 have HLT:=hid hst.lt
 have HBS:=hid hB.size
 have HJN:=hid hst.jn
 have HWS:=hid (show W.heap.size=w.heap.size+2 by rw[hW];simp)
 clear hB hst
 clear hF
 obtain⟨c1,c2,c3,c4⟩:=S0.c
 have m5:=P0.bk.c5
 have K:=R0.bk.c2
 have J:=R0.bk.f
 rw[hW]at c1 c2 c3 c4 m5 K J
 go_enter Tryz.func63,Tryz.ntmps63
 go_wp2_with fail
 rw[←hW]
 clear c1 c2 c3 c4 m5 K J hW
 refine(HF.out v W S0.out).mono ?_
 rintro e ag ⟨T,G,A,af,rfl,s9,h,t9,F⟩
 have y:=hid s9
 have ac:=hid (P0.go h)
 have o:=hid (R0.go h)
 have Z:=hid (G0.trans h)
 have V:=hid t9
 have ad:=hid F
 obtain⟨C,D,rfl,Q⟩:=t9.lies
 clear s9 t9 h F Q
 have O:=y.c
 have N:=ac.bk.c5
 have ab:=o.bk.c2
 have U:=o.bk.f
 go_wp2
 clear O N ab U
 obtain⟨ae,aa⟩:=(o.bk.put2 (.slice C G.length D) (.bool A)).c2
 exact bodyPost_ret (v:= .agg #[.slice C G.length D,.bool A]) (by simp[results,Tryz.results63,go_sem,ae,aa]) rfl (rq_end HLT.out y.out Z.out o.out V.out (by exact Nat.le_succ _) (by exact R0.bk.lt) (ad.out))
set_option maxHeartbeats 6400000 in
theorem at_6(pd pi pg psg:Bool)(w:World)(hst:Sq w0 l a cap N0 s j false v w)(RX:R)(hF:∀(v:Value) (w:World),Sq w0 l a cap N0 s j false v w→Calls Tryz.prog 113 #[.pointer (some ⟨w0.heap.size,0,none⟩),.agg #[.int .i64 6,.bool pd,.bool pi,.bool pg,.bool psg],.int .i64 6,.int .i64 1] w (Rq w0 l a cap N0 s j v w RX)):
  Calls Tryz.prog 63 #[.pointer (some ⟨w0.heap.size,0,none⟩),.agg #[.int .i64 6,.bool pd,.bool pi,.bool pg,.bool psg]] w (Rq w0 l a cap N0 s j v w RX):=by
 have HF:=hid hF
 obtain⟨W,hW⟩:∃W,W=(w.alloc (.cells #[.int .i64 6,.bool pd,.bool pi,.bool pg,.bool psg] 44)).alloc (.cells #[.slice none 0 0,.bool false] 95):=⟨_,rfl⟩
 have hB:Below w.heap.size w W:=by rw[hW];exact((Below.refl _ _).alloc (Nat.le_refl _) _).alloc (by simp) _
 have P0:=hid (show Mq w0.heap.size w.heap.size #[.int .i64 6,.bool pd,.bool pi,.bool pg,.bool psg] 44 v W from Mq.of hst (by rw[hW];exact(Bk.new _ _ _).alloc _) (Nat.le_refl _))
 have R0:=hid (show Mq w0.heap.size (w.heap.size+1) #[.slice none 0 0,.bool false] 95 v W from Mq.of hst (by rw[hW];have:=Bk.new (w.alloc (.cells #[.int .i64 6,.bool pd,.bool pi,.bool pg,.bool psg] 44)) #[.slice none 0 0,.bool false] 95;simpa using this) (Nat.le_succ _))
 have S0:=hid (hst.keep hB)
 have G0:=hid (show Gr (X0 w0.heap.size) v v w W from Gr.quiet hB)
 have HLT:=hid hst.lt
 have HBS:=hid hB.size
 have HJN:=hid hst.jn
 have HWS:=hid (show W.heap.size=w.heap.size+2 by rw[hW];simp)
 clear hB hst
 clear hF
 obtain⟨c1,c2,c3,c4⟩:=S0.c
 have m5:=P0.bk.c5
 have K:=R0.bk.c2
 have J:=R0.bk.f
 rw[hW]at c1 c2 c3 c4 m5 K J
 go_enter Tryz.func63,Tryz.ntmps63
 go_wp2_with fail
 rw[←hW]
 clear c1 c2 c3 c4 m5 K J hW
 refine(HF.out v W S0.out).mono ?_
 rintro e ag ⟨T,G,A,af,rfl,s9,h,t9,F⟩
 have y:=hid s9
 have ac:=hid (P0.go h)
 have o:=hid (R0.go h)
 have Z:=hid (G0.trans h)
 have V:=hid t9
 have ad:=hid F
 obtain⟨C,D,rfl,Q⟩:=t9.lies
 clear s9 t9 h F Q
 have O:=y.c
 have N:=ac.bk.c5
 have ab:=o.bk.c2
 have U:=o.bk.f
 go_wp2
 clear O N ab U
 obtain⟨ae,aa⟩:=(o.bk.put2 (.slice C G.length D) (.bool A)).c2
 exact bodyPost_ret (v:= .agg #[.slice C G.length D,.bool A]) (by simp[results,Tryz.results63,go_sem,ae,aa]) rfl (rq_end HLT.out y.out Z.out o.out V.out (by exact Nat.le_succ _) (by exact R0.bk.lt) (ad.out))
set_option maxHeartbeats 6400000 in
theorem at_4(pd pi pg psg:Bool)(w:World)(hst:Sq w0 l a cap N0 s j false v w)(RX:R)(hF:∀(v:Value) (w:World),Sq w0 l a cap N0 s j false v w→Calls Tryz.prog 113 #[.pointer (some ⟨w0.heap.size,0,none⟩),.agg #[.int .i64 4,.bool pd,.bool pi,.bool pg,.bool psg],.int .i64 4,.int .i64 3000] w (Rq w0 l a cap N0 s j v w RX)):
  Calls Tryz.prog 63 #[.pointer (some ⟨w0.heap.size,0,none⟩),.agg #[.int .i64 4,.bool pd,.bool pi,.bool pg,.bool psg]] w (Rq w0 l a cap N0 s j v w RX):=by
 have HF:=hid hF
 obtain⟨W,hW⟩:∃W,W=(w.alloc (.cells #[.int .i64 4,.bool pd,.bool pi,.bool pg,.bool psg] 44)).alloc (.cells #[.slice none 0 0,.bool false] 95):=⟨_,rfl⟩
 have hB:Below w.heap.size w W:=by rw[hW];exact((Below.refl _ _).alloc (Nat.le_refl _) _).alloc (by simp) _
 have P0:=hid (show Mq w0.heap.size w.heap.size #[.int .i64 4,.bool pd,.bool pi,.bool pg,.bool psg] 44 v W from Mq.of hst (by rw[hW];exact(Bk.new _ _ _).alloc _) (Nat.le_refl _))
 have R0:=hid (show Mq w0.heap.size (w.heap.size+1) #[.slice none 0 0,.bool false] 95 v W from Mq.of hst (by rw[hW];have:=Bk.new (w.alloc (.cells #[.int .i64 4,.bool pd,.bool pi,.bool pg,.bool psg] 44)) #[.slice none 0 0,.bool false] 95;simpa using this) (Nat.le_succ _))
 have S0:=hid (hst.keep hB)
 have G0:=hid (show Gr (X0 w0.heap.size) v v w W from Gr.quiet hB)
 have HLT:=hid hst.lt
 have HBS:=hid hB.size
 have HJN:=hid hst.jn
 have HWS:=hid (show W.heap.size=w.heap.size+2 by rw[hW];simp)
 clear hB hst
 clear hF
 obtain⟨c1,c2,c3,c4⟩:=S0.c
 have m5:=P0.bk.c5
 have K:=R0.bk.c2
 have J:=R0.bk.f
 rw[hW]at c1 c2 c3 c4 m5 K J
 go_enter Tryz.func63,Tryz.ntmps63
 go_wp2_with fail
 rw[←hW]
 clear c1 c2 c3 c4 m5 K J hW
 refine(HF.out v W S0.out).mono ?_
 rintro e ag ⟨T,G,A,af,rfl,s9,h,t9,F⟩
 have y:=hid s9
 have ac:=hid (P0.go h)
 have o:=hid (R0.go h)
 have Z:=hid (G0.trans h)
 have V:=hid t9
 have ad:=hid F
 obtain⟨C,D,rfl,Q⟩:=t9.lies
 clear s9 t9 h F Q
 have O:=y.c
 have N:=ac.bk.c5
 have ab:=o.bk.c2
 have U:=o.bk.f
 go_wp2
 clear O N ab U
 obtain⟨ae,aa⟩:=(o.bk.put2 (.slice C G.length D) (.bool A)).c2
 exact bodyPost_ret (v:= .agg #[.slice C G.length D,.bool A]) (by simp[results,Tryz.results63,go_sem,ae,aa]) rfl (rq_end HLT.out y.out Z.out o.out V.out (by exact Nat.le_succ _) (by exact R0.bk.lt) (ad.out))
set_option maxHeartbeats 6400000 in
theorem at_3(pd pi pg psg:Bool)(w:World)(hst:Sq w0 l a cap N0 s j false v w)(RX:R)(hF:∀(v:Value) (w:World),Sq w0 l a cap N0 s j false v w→Calls Tryz.prog 113 #[.pointer (some ⟨w0.heap.size,0,none⟩),.agg #[.int .i64 3,.bool pd,.bool pi,.bool pg,.bool psg],.int .i64 3,.int .i64 3000] w (Rq w0 l a cap N0 s j v w RX)):
  Calls Tryz.prog 63 #[.pointer (some ⟨w0.heap.size,0,none⟩),.agg #[.int .i64 3,.bool pd,.bool pi,.bool pg,.bool psg]] w (Rq w0 l a cap N0 s j v w RX):=by
 have HF:=hid hF
 obtain⟨W,hW⟩:∃W,W=(w.alloc (.cells #[.int .i64 3,.bool pd,.bool pi,.bool pg,.bool psg] 44)).alloc (.cells #[.slice none 0 0,.bool false] 95):=⟨_,rfl⟩
 have hB:Below w.heap.size w W:=by rw[hW];exact((Below.refl _ _).alloc (Nat.le_refl _) _).alloc (by simp) _
 have P0:=hid (show Mq w0.heap.size w.heap.size #[.int .i64 3,.bool pd,.bool pi,.bool pg,.bool psg] 44 v W from Mq.of hst (by rw[hW];exact(Bk.new _ _ _).alloc _) (Nat.le_refl _))
 have R0:=hid (show Mq w0.heap.size (w.heap.size+1) #[.slice none 0 0,.bool false] 95 v W from Mq.of hst (by rw[hW];have:=Bk.new (w.alloc (.cells #[.int .i64 3,.bool pd,.bool pi,.bool pg,.bool psg] 44)) #[.slice none 0 0,.bool false] 95;simpa using this) (Nat.le_succ _))
 have S0:=hid (hst.keep hB)
 have G0:=hid (show Gr (X0 w0.heap.size) v v w W from Gr.quiet hB)
 have HLT:=hid hst.lt
 have HBS:=hid hB.size
 have HJN:=hid hst.jn
 have HWS:=hid (show W.heap.size=w.heap.size+2 by rw[hW];simp)
 clear hB hst
 clear hF
 obtain⟨c1,c2,c3,c4⟩:=S0.c
 have m5:=P0.bk.c5
 have K:=R0.bk.c2
 have J:=R0.bk.f
 rw[hW]at c1 c2 c3 c4 m5 K J
 go_enter Tryz.func63,Tryz.ntmps63
 go_wp2_with fail
 rw[←hW]
 clear c1 c2 c3 c4 m5 K J hW
 refine(HF.out v W S0.out).mono ?_
 rintro e ag ⟨T,G,A,af,rfl,s9,h,t9,F⟩
 have y:=hid s9
 have ac:=hid (P0.go h)
 have o:=hid (R0.go h)
 have Z:=hid (G0.trans h)
 have V:=hid t9
 have ad:=hid F
 obtain⟨C,D,rfl,Q⟩:=t9.lies
 clear s9 t9 h F Q
 have O:=y.c
 have N:=ac.bk.c5
 have ab:=o.bk.c2
 have U:=o.bk.f
 go_wp2
 clear O N ab U
 obtain⟨ae,aa⟩:=(o.bk.put2 (.slice C G.length D) (.bool A)).c2
 exact bodyPost_ret (v:= .agg #[.slice C G.length D,.bool A]) (by simp[results,Tryz.results63,go_sem,ae,aa]) rfl (rq_end HLT.out y.out Z.out o.out V.out (by exact Nat.le_succ _) (by exact R0.bk.lt) (ad.out))
end
end Go.Proofs.YtebjmdpkobhcbaaGreatDoor.qs
