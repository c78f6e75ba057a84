/- A part. -/
import Derived.Test.YtebjmdpkobhcbaaGreatDoorRGQs
import Derived.Test.YtebjmdpkobhcbaaGreatDoorRGPi
import Derived.Test.YtebjmdpkobhcbaaGreatDoorRGDp
import Derived.Test.YtebjmdpkobhcbaaGreatDoorRToksSpec
namespace Go.Proofs.YtebjmdpkobhcbaaGreatDoor.pe
open Lib (hid)
open Go.RowKit
open nd (Nd depthF)
open tk (Tk)
open ps (Ps posOk)
open operand (begins)
open tksok (tokensOk okFrom)
set_option linter.unusedVariables false
set_option linter.unusedSimpArgs false
section
variable {l:List Tk} {f j:Nat} {L:Int} {d i g s:Bool}
theorem ex_sign(hp:posOk L d=true)(hb:begins (kd l j)=false):ex l (f+1) ⟨L,d,i,g,true⟩ j= .bad j:=by
 rw[ex_succ]
 have hf:first (ex l f) l ⟨L,d,i,g,true⟩ j= .bad j:=by
  unfold first
  have o:¬kd l j=32:=fun h=>by rw[h]at hb;exact absurd hb (by decide)
  rw[if_neg o,if_neg]
  unfold ft ps.fits
  generalize kd l j=c at*
  have hcases:bgK c=0\/bgK c=4\/bgK c=9\/bgK c=11:=by
   unfold bgK
   by_cases h3:c=3
   ·subst h3;exact absurd hb (by decide)
   by_cases h4:c=4
   ·subst h4;exact absurd hb (by decide)
   by_cases h6:c=6
   ·subst h6;exact absurd hb (by decide)
   by_cases h7:c=7
   ·subst h7;exact absurd hb (by decide)
   by_cases h8:c=8
   ·subst h8;exact absurd hb (by decide)
   by_cases h68:c=68
   ·subst h68;exact absurd hb (by decide)
   rw[if_neg h3,if_neg h4]
   by_cases h5:c=5
   ·rw[if_pos h5];exact .inr (.inl rfl)
   rw[if_neg h5,if_neg h6,if_neg h7,if_neg h8,if_neg h68]
   by_cases h51:c=51\/c=52
   ·rw[if_pos h51];exact .inr (.inr (.inl rfl))
   rw[if_neg h51]
   by_cases h55:c=55\/c=56\/c=61
   ·rw[if_pos h55];exact .inr (.inr (.inr rfl))
   rw[if_neg h55];exact .inl rfl
  rcases hcases with h|h|h|h
  ·rw[h]
   rw[show lv.levelOf 0 (bgO c)=0 from rfl]
   simp
  ·rw[h];simp[ps.forb]
  ·rw[h];simp[ps.forb]
  ·rw[h];simp[ps.forb]
 rw[hf]
theorem ex_begin(hp:posOk L d=true)(hb:begins (kd l j)=true):ex l (f+1) ⟨L,d,i,g,s⟩ j=ex l (f+1) ⟨L,d,i,g,false⟩ j:=by
 cases s with
 |false=>rfl
 |true=>
  rw[ex_succ,ex_succ]
  have hf:first (ex l f) l ⟨L,d,i,g,true⟩ j=first (ex l f) l ⟨L,d,i,g,false⟩ j:=by
   refine first_same hp hp rfl rfl (fun h2=> ?_) (fun h2=> ?_)
   ·cases d<;>cases i<;>cases g<;>rfl
   ·unfold ft ps.fits
    generalize kd l j=c at*
    rcases beg_vals hb with rfl|rfl|rfl|rfl|rfl|rfl|rfl<;>first|exact absurd rfl h2|rfl
  rw[hf]
  cases first (ex l f) l ⟨L,d,i,g,false⟩ j with
  |bad m=>rfl
  |ok lv tg t m=>exact go_same (p:=⟨L,d,i,g,true⟩) (p':=⟨L,d,i,g,false⟩) hp hp rfl rfl rfl _ _ _ _ _
def exT(l:List Tk)(p:Ps):R:=
 if(p.s&& !begins (kd l 0))=true then .bad 0 else if(p.d&&isInc (kd l 0))=true then preR (ex l l.length) l p.i p.g 0 else ex l (l.length+1) (cp p.l p.i p.g) 0
theorem ex_top{p:Ps}(hp:posOk p.l p.d=true):ex l (l.length+1) p 0=exT l p:=by
 obtain⟨L,d,i,g,s⟩:=p
 have hpd:d=true->L=14:=fun hd=>by
  subst hd
  have:=hp
  unfold posOk at this
  simp at this
  exact this.2
 have key:ex l (l.length+1) ⟨L,d,i,g,false⟩ 0=if(d&&isInc (kd l 0))=true then preR (ex l l.length) l i g 0 else ex l (l.length+1) (cp L i g) 0:=by
  cases d with
  |false=>rfl
  |true=>
   obtain rfl:=hpd rfl
   rw[ex_doll,Bool.true_and]
 unfold exT
 simp only at hp|-
 cases hb:begins (kd l 0)with
 |true=>rw[ex_begin hp hb,key];simp
 |false=>
  cases s with
  |true=>rw[ex_sign hp hb];simp
  |false=>rw[key];simp
theorem okFrom_99:∀(l:List Tk) (p:Int),okFrom p l=true->∀m,¬kd l m=99:=by
 intro l
 induction l with
 |nil=>intro p _ m h;unfold kd at h;simp at h
 |cons t l ih=>
  intro p h m
  unfold okFrom at h
  rw[Bool.and_eq_true,Bool.and_eq_true]at h
  cases m with
  |zero=>
   intro h2
   have h1:=h.1
   rw[show t.k=99 from h2]at h1
   unfold tok.tokOk at h1
   simp at h1
   exact h1.1 (h1.2.trans (by rw[show spell.spell 99=(⟨#[]⟩:ByteArray)from by first|rfl|decide];rw[ByteArray.toList_eq]))
  |succ m=>
   intro h2
   exact ih _ h.2.2 m (by unfold kd at h2|-;simpa using h2)
theorem toks_99(h:tokensOk l=true):∀m,¬kd l m=99:=by
 unfold tokensOk at h
 rw[Bool.and_eq_true]at h
 exact okFrom_99 l 0 h.2
end
end Go.Proofs.YtebjmdpkobhcbaaGreatDoor.pe
namespace Go.Proofs.YtebjmdpkobhcbaaGreatDoor.qs
open Go.ChangeShapes Go.WideShapes Go.ChangeAt Go.RowKit
open tk (Tk)
open nd (Nd PT)
open pe
open pr (Bk below_put2)
set_option linter.unusedVariables false
set_option linter.unusedSimpArgs false
set_option maxRecDepth 20000
set_option maxHeartbeats 1600000 in
theorem fault_any(l:List Tk)(a:Option Addr)(cap i:Nat)(k:Int)(w:World)(hc:tk.Lies w.heap.size w a l)(hl:l.length<=1048576)(hi:i<=l.length)(hm:∀t∈l,t.s.size<=1048576):
  Calls Tryz.prog 58 #[.slice a l.length cap,.int .i64 (i:Int),.int .i64 k] w fun e w'=>e= .returned (.agg #[.int .i64 k,.int .i64 (place l i)])/\Below w.heap.size w w':=by
 obtain⟨W,hW⟩:∃W,W=w.alloc (.cells #[.int .i64 0,.int .i64 0] 28):=⟨_,rfl⟩
 have hB:Below w.heap.size w W:=by rw[hW];exact(Below.refl _ _).alloc (Nat.le_refl _) _
 have HR:=hid (show Bk w.heap.size #[.int .i64 0,.int .i64 0] 28 W by rw[hW];exact Bk.new _ _ _)
 have HB:=hid hB
 have LI:tk.Lies W.heap.size W a l:=pr.lies_on hc hB
 have r0:=HR.c2
 have g0:=HR.f
 by_cases h:i<l.length
 ·obtain⟨b,o,rfl,hlt,hat⟩:=tk.lies_at LI h
  obtain⟨d0,d1,d2⟩:=hat i h
  rw[show place l i=l[i].a by unfold place;rw[if_pos h,pe.ta_at h]]
  obtain⟨y,hy⟩:∃y,l[i].a=y:=⟨_,rfl⟩
  rw[hy]at d2|-
  obtain⟨N,hN⟩:∃N,l.length=N:=⟨_,rfl⟩
  rw[hN]at h hl hi|-
  have h1:(i:Int)<(N:Int):=by omega
  have h0:(0:Int)<=(i:Int):=by omega
  rw[hW]at d2 r0 g0
  clear hy d0 d1 hc hm hN h hat hlt LI hB
  go_enter Tryz.func58,Tryz.ntmps58
  go_wp2
  clear hW d2 r0 g0
  obtain⟨t0,t1⟩:=(Bk.new w #[.int .i64 k,.int .i64 y] 28).c2
  exact bodyPost_ret (v:= .agg #[.int .i64 k,.int .i64 y]) (by simp[results,Tryz.results58,go_sem,t0,t1]) rfl ⟨rfl,(Below.refl _ _).alloc (Nat.le_refl _) _⟩
 ·by_cases h0:l.length=0
  ·rw[show place l i=0 by unfold place;rw[if_neg h,if_pos h0]]
   obtain rfl:i=0:=by omega
   rw[h0]
   rw[hW]at r0 g0
   clear hc hl hi hm h h0 LI hB
   go_enter Tryz.func58,Tryz.ntmps58
   go_wp2
   clear hW r0 g0
   obtain⟨t0,t1⟩:=(Bk.new w #[.int .i64 k,.int .i64 0] 28).c2
   exact bodyPost_ret (v:= .agg #[.int .i64 k,.int .i64 0]) (by simp[results,Tryz.results58,go_sem,t0,t1]) rfl ⟨rfl,(Below.refl _ _).alloc (Nat.le_refl _) _⟩
  ·have hlast:l.length-1<l.length:=by omega
   obtain⟨b,o,rfl,hlt,hat⟩:=tk.lies_at LI hlast
   obtain⟨d0,d1,d2⟩:=hat (l.length-1) hlast
   have hsz:=hm _ (List.getElem_mem hlast)
   rw[show place l i=wrap64 (l[l.length-1].a+(l[l.length-1].s.size:Int)) by unfold place;rw[if_neg h,if_neg h0,pe.ta_at hlast,tx_at hlast]]
   obtain⟨t,ht⟩:∃t,l[l.length-1]=t:=⟨_,rfl⟩
   rw[ht]at d0 d1 d2 hsz|-
   obtain⟨K,hK⟩:∃K,l.length=K+1:=⟨l.length-1,by omega⟩
   rw[hK]at h hl hi h0 d0 d1 d2|-
   rw[show K+1-1=K by omega]at d0 d1 d2
   obtain rfl:i=K+1:=by omega
   have q1:(((K+1:Nat):Int)==0)=false:=by rw[beq_eq_false_iff_ne];omega
   have q2:¬((K+1:Nat):Int)<((K+1:Nat):Int):=by omega
   have q3:(((K+1:Nat):Int)-1)=(K:Int):=by omega
   have q4:(K:Int)<((K+1:Nat):Int):=by omega
   have q5:(0:Int)<=(K:Int):=by omega
   have HT:=hid (show Bk (w.heap.size+1) #[.int .i64 t.k,.string t.s,.int .i64 t.a] 86 (W.alloc (.cells #[.int .i64 t.k,.string t.s,.int .i64 t.a] 86)) by
    have:=Bk.new W #[.int .i64 t.k,.string t.s,.int .i64 t.a] 86
    rw[show W.heap.size=w.heap.size+1 by rw[hW];simp]at this
    exact this)
   have HBEL:=hid (HB.alloc HB.size (.cells #[.int .i64 t.k,.string t.s,.int .i64 t.a] 86))
   have A:=hid (HR.alloc (.cells #[.int .i64 t.k,.string t.s,.int .i64 t.a] 86))
   have r0:=A.c2
   have g0:=A.f
   have u0:=HT.c3
   have e0:((K+1:Nat):Int)=(K:Int)+1:=by omega
   rw[e0]at q1 q2 q3 q4
   rw[hW]at r0 g0 d0 d1 d2 u0
   clear hc hm hat hlt ht hK h h0 hlast LI hB
   go_enter Tryz.func58,Tryz.ntmps58
   rw[e0]
   go_wp2
   clear hW d0 d1 d2 r0 g0 u0
   obtain⟨t0,t1⟩:=((Bk.new w #[.int .i64 k,.int .i64 (wrap64 (t.a+(t.s.size:Int)))] 28).alloc (.cells #[.int .i64 t.k,.string t.s,.int .i64 t.a] 86)).c2
   first
    |exact bodyPost_ret (v:= .agg #[.int .i64 k,.int .i64 (wrap64 (t.a+(t.s.size:Int)))]) (by simp[results,Tryz.results58,go_sem,t0,t1]) rfl ⟨rfl,((Below.refl _ _).alloc (Nat.le_refl _) _).alloc (by simp) _⟩
    |fail "SEE"
set_option maxHeartbeats 1600000 in
theorem size_any(t:List Nd)(a:Option Addr)(cap:Nat)(w:World)(hc:nd.Lies w.heap.size w a t)(hl:t.length<=1048576)(hk:∀n∈t,n.kids.length<=1048576):
  Calls Tryz.prog 64 #[.slice a t.length cap] w fun e w'=>e= .returned (.agg #[.int .i64 (sf t).1,.int .i64 (sf t).2])/\Below w.heap.size w w':=by
 obtain⟨W,hW⟩:∃W,W=w.alloc (.cells #[.int .i64 0,.int .i64 0] 28):=⟨_,rfl⟩
 have hB:Below w.heap.size w W:=by rw[hW];exact(Below.refl _ _).alloc (Nat.le_refl _) _
 have HR:=hid (show Bk w.heap.size #[.int .i64 0,.int .i64 0] 28 W by rw[hW];exact Bk.new _ _ _)
 have HB:=hid hB
 have HD:=hid (nd.spec_depth t a cap W hl hk (hc.on hB (Nat.le_refl _)))
 obtain⟨D,hD⟩:∃D,nd.depthF t=D:=⟨_,rfl⟩
 rw[hD]at HD
 have hsf:sf t=if 400<t.length then(1,0)else if 40<D then(4,0)else(0,0):=by unfold sf;rw[hD]
 rw[hsf]
 obtain⟨N,hN⟩:∃N,t.length=N:=⟨_,rfl⟩
 rw[hN]at HD hl|-
 clear hc hk hB hD hsf hN
 have r0:=HR.c2
 have g0:=HR.f
 by_cases h1:400<N
 ·have q1:(400:Int)<(N:Int):=by omega
  rw[if_pos h1]
  rw[hW]at r0 g0
  clear h1
  go_enter Tryz.func64,Tryz.ntmps64
  go_wp2
  clear hW r0 g0
  obtain⟨t0,t1⟩:=(Bk.new w #[.int .i64 1,.int .i64 0] 28).c2
  exact bodyPost_ret (v:= .agg #[.int .i64 1,.int .i64 0]) (by simp[results,Tryz.results64,go_sem,t0,t1]) rfl ⟨rfl,(Below.refl _ _).alloc (Nat.le_refl _) _⟩
 ·have q1:¬(400:Int)<(N:Int):=by omega
  rw[if_neg h1]
  clear r0 g0
  by_cases h2:40<D
  ·have q2:(40:Int)<(D:Int):=by omega
   rw[if_pos h2]
   clear h1 h2
   go_enter Tryz.func64,Tryz.ntmps64
   go_wp2_with fail
   rw[<-hW]
   clear hW
   refine HD.mono ?_
   rintro e w1 ⟨rfl,b1⟩
   have B1:=hid (HB.trans (b1.mono HB.size))
   have R1:=hid (HR.keep b1)
   clear b1
   have r0:=R1.c2
   have g0:=R1.f
   go_wp2
   obtain⟨t0,t1⟩:=(R1.put2 (.int .i64 4) (.int .i64 0)).c2
   exact bodyPost_ret (v:= .agg #[.int .i64 4,.int .i64 0]) (by simp[results,Tryz.results64,go_sem,t0,t1]) rfl ⟨rfl,below_put2 B1.out (Nat.le_refl _) _ _⟩
  ·have q2:¬(40:Int)<(D:Int):=by omega
   rw[if_neg h2]
   clear h1 h2
   go_enter Tryz.func64,Tryz.ntmps64
   go_wp2_with fail
   rw[<-hW]
   clear hW
   refine HD.mono ?_
   rintro e w1 ⟨rfl,b1⟩
   have B1:=hid (HB.trans (b1.mono HB.size))
   have R1:=hid (HR.keep b1)
   clear b1
   have r0:=R1.c2
   have g0:=R1.f
   go_wp2
   obtain⟨t0,t1⟩:=(R1.put2 (.int .i64 0) (.int .i64 0)).c2
   exact bodyPost_ret (v:= .agg #[.int .i64 0,.int .i64 0]) (by simp[results,Tryz.results64,go_sem,t0,t1]) rfl ⟨rfl,below_put2 B1.out (Nat.le_refl _) _ _⟩
theorem pt_bk{B g:Nat}{w:World}(h:Bk g #[] 33 w)(hB:B<=g):PT B (.slice (some ⟨g,0,none⟩) 0 0) [] (fun i=>i) w:=
 ⟨⟨rfl,.inr ⟨g,0,#[],rfl,hB,h,Nat.le_refl _,by unfold maxLen;omega,rfl,rfl⟩⟩,fun i h=>by simp at h,fun i h=>by simp at h,fun i j _ h=>by simp at h,fun i h=>by simp at h⟩
end Go.Proofs.YtebjmdpkobhcbaaGreatDoor.qs
