/-

-/
import Derived.Test.YtnoagleifffkcaaGreatDoorZoDerX
import Derived.Test.YtnoagleifffkcaaGreatDoorZoGLx
import Derived.Test.YtnoagleifffkcaaGreatDoorZoGTr
import Derived.Test.YtnoagleifffkcaaGreatDoorZoNest
import Derived.Test.YtnoagleifffkcaaGreatDoorZoGDm
import Derived.Test.YtnoagleifffkcaaGreatDoorZoGDn
namespace Go.Proofs.YtnoagleifffkcaaGreatDoor.dm
open Lib (hid)
open Go.ChangeShapes Go.WideShapes Go.ChangeAt Go.RowKit
open ps (Ps posOk top kidI)
open tk (Tk)
open nd (Nd Ints)
open rb (Ee Uu tkn sym ln lnF lsD brD kidD opD bodyD bodyA)
open rt (treeOk isExpr)
open et (kp kd)
open spell (Held)
set_option linter.unusedVariables false
set_option linter.unusedSimpArgs false
set_option maxRecDepth 20000
theorem ok_all:∀(l:List Tk) (q:Int),tksok.okFrom q l=true→∀t∈l,tok.tokOk t.k t.s=true:=by
 intro l
 induction l with
 |nil=>intro q _ t ht;cases ht
 |cons x l ih=>
  intro q h t ht
  unfold tksok.okFrom at h
  rw[Bool.and_eq_true,Bool.and_eq_true]at h
  rcases List.mem_cons.1 ht with rfl|ht
  ·exact h.1
  ·exact ih x.k h.2.2 t ht
theorem sym_tx{L:List Tk}(h:tksok.tokensOk L=true){k:Int}(hk:k=1∨k=32)(j:Nat)(hj:pe.kd L j=k):pe.tx L j=spell.spell k:=by
 have hlt:j<L.length:=by
  rcases Nat.lt_or_ge j L.length with h'|h'
  ·exact h'
  ·rw[kd_out h']at hj;omega
 obtain⟨q1,q2⟩:=tok_at hlt
 rw[q1]at hj
 rw[q2]
 unfold tksok.tokensOk at h
 rw[Bool.and_eq_true]at h
 have ht:=ok_all L 0 h.2 L[j] (List.getElem_mem hlt)
 unfold tok.tokOk at ht
 rw[hj,if_neg (by omega),if_neg (by omega),if_neg (by omega),if_neg (by omega),if_neg (by omega),if_neg (by omega),Bool.and_eq_true,beq_iff_eq,ByteArray.toList_eq,ByteArray.toList_eq]at ht
 exact ByteArray.ext (Array.toList_inj.1 ht.2)
def derB(L:List Tk)(l:List Nd)(p:Ps):Bool:=decide (L.length≤400)&&(tksok.tokensOk L&&(rt.exprOk l&&(posOk p.l p.d&&(decide (pb.nestOf L<0)&&decide (Ee L l (l.length-1) 0 p=some L.length)))))
theorem co_eq{X:Option Nat}{n:Nat}:(co X==(n:Int))=decide (X=some n):=by
 cases X with
 |none=>
  rw[decide_eq_false (by simp)]
  show((-1:Int)==(n:Int))=false
  rw[beq_eq_false_iff_ne]
  omega
 |some b=>
  show((b:Int)==(n:Int))=_
  by_cases h:b=n
  ·subst h;simp
  ·rw[decide_eq_false (by simpa using h),beq_eq_false_iff_ne];omega
set_option maxHeartbeats 3200000 in
theorem impl_derives(L:List Tk)(l:List Nd)(aL aX:Option Addr)(cL cX:Nat)(p:Ps)(w:World)(hnL:L.length≤1048576)(hL:tk.Lies w.heap.size w aL L)(hmL:∀t∈L,t.s.size≤1048576)(hn:l.length≤1048576)(hl:nd.Lies w.heap.size w aX l)(hk:∀t∈l,t.kids.length≤1048576)(hs:∀t∈l,t.s.size≤1048576∧t.t.size≤1048576)(hh:Held w):
  Calls Tryz.prog 11 #[.slice aL L.length cL,.slice aX l.length cX,.agg #[.int .i64 p.l,.bool p.d,.bool p.i,.bool p.g,.bool p.s]] w fun e w'=>e= .returned (.bool (derB L l p))∧Below w.heap.size w w':=by
 have HL:=hid hL
 have HX:=hid hl
 have HM:=hid hmL
 have HK:=hid hk
 have HS:=hid hs
 have HH:=hid hh
 obtain⟨D,hD⟩:∃D,D=derB L l p:=⟨_,rfl⟩
 rw[←hD]
 have HD:=hid hD
 obtain⟨n,hln⟩:∃n,n=L.length:=⟨_,rfl⟩
 have HLN:=hid hln
 obtain⟨m,hlm⟩:∃m,m=l.length:=⟨_,rfl⟩
 have HLM:=hid hlm
 have HCT:=hid (fun W aL h1 h2=>show Calls _ _ #[.slice aL n cL] W _ by rw[hln];exact tksok.impl_toksOk L aL cL W hnL h1 hmL h2)
 have HCN:=hid (fun W aL h1=>show Calls _ _ #[.slice aL n cL] W _ by rw[hln];exact pb.impl_nestOf L aL cL W hnL h1)
 have HCE:=hid (fun W aX h1 h2=>show Calls _ _ #[.slice aX m cX] W _ by rw[hlm];exact rt.impl_expr l aX cX W hn hk hs h1 h2)
 rw[←hln,←hlm]
 rw[←hln]at hnL
 rw[←hlm]at hn
 have y:Below w.heap.size w (w.alloc (.cells #[.int .i64 p.l,.bool p.d,.bool p.i,.bool p.g,.bool p.s] 26)):=(Below.refl _ _).alloc (Nat.le_refl _) _
 have j:=hid y
 have G:=hid (show PBx (w.alloc (.cells #[.int .i64 p.l,.bool p.d,.bool p.i,.bool p.g,.bool p.s] 26)) w.heap.size p from heap_alloc_new w _)
 have hmm:= @run_makeMap Tryz.prog
 clear hL hl hmL hk hs hh hD hln hlm y
 by_cases h4:400<n
 ·have HE:=hid (show D=false by rw[HD.out];unfold derB;rw[decide_eq_false (by rw[←HLN.out];omega)];rfl)
  have F:(400:Int)<(n:Int):=by omega
  clear h4
  go_enter Tryz.func11,Tryz.ntmps11
  go_wp2
  go_ret
  exact⟨by rw[HE.out];rfl,j.out⟩
 have F:¬(400:Int)<(n:Int):=by omega
 have K:decide (400<n)=false:=by rw[decide_eq_false_iff_not];exact h4
 go_enter Tryz.func11,Tryz.ntmps11
 go_wp2_with fail
 refine(HCT.out _ aL ((HL.keep j.out (Nat.le_refl _)).up j.size) (HH.below j.out)).mono ?_
 rintro e w1 ⟨rfl,b1⟩
 have B1:=hid (j.trans (b1.mono j.size))
 have P1:=hid (G.on b1)
 clear b1
 cases hT:tksok.tokensOk L with
 |false=>
  have HE:=hid (show D=false by rw[HD.out];unfold derB;rw[hT];simp)
  clear hT
  go_wp2
  go_ret
  exact⟨by rw[HE.out];rfl,B1.out⟩
 |true=>
 have HT:=hid hT
 clear hT
 go_wp2_with fail
 refine(HCE.out _ aX (HX.on B1.out (Nat.le_refl _)) (HH.below B1.out)).mono ?_
 rintro e w2 ⟨rfl,b2⟩
 have B2:=hid (B1.trans (b2.mono B1.size))
 have P2:=hid (P1.on b2)
 clear b2
 cases hE:rt.exprOk l with
 |false=>
  have HE:=hid (show D=false by rw[HD.out];unfold derB;rw[hE];simp)
  clear hE
  go_wp2
  go_ret
  exact⟨by rw[HE.out];rfl,B2.out⟩
 |true=>
 have HXO:=hid hE
 clear hE
 have p0:=P2.c
 go_wp2_with fail
 refine(ps.impl_ok p.l p.d p.i p.g p.s _).mono ?_
 rintro e w3 ⟨rfl,b3⟩
 have B3:=hid (B2.trans (b3.mono B2.size))
 have P3:=hid (P2.on b3)
 clear b3 p0
 cases hP:posOk p.l p.d with
 |false=>
  have HE:=hid (show D=false by rw[HD.out];unfold derB;rw[hP];simp)
  clear hP
  go_wp2
  go_ret
  exact⟨by rw[HE.out];rfl,B3.out⟩
 |true=>
 have HPO:=hid hP
 clear hP
 go_wp2_with fail
 refine(HCN.out _ aL ((HL.keep B3.out (Nat.le_refl _)).up B3.size)).mono ?_
 rintro e w4 ⟨rfl,b4⟩
 have B4:=hid (B3.trans (b4.mono B3.size))
 have P4:=hid (P3.on b4)
 clear b4
 obtain⟨N,hN⟩:∃N,N=pb.nestOf L:=⟨_,rfl⟩
 rw[←hN]
 by_cases hz:0≤N
 ·have HE:=hid (show D=false by rw[HD.out];unfold derB;rw[decide_eq_false (show¬pb.nestOf L<0 by omega)];simp)
  clear hN
  go_wp2
  go_ret
  exact⟨by rw[HE.out];rfl,B4.out⟩
 have HDE:=hid (show D=decide (Ee L l (l.length-1) 0 p=some L.length) by
  rw[HD.out]
  unfold derB
  rw[decide_eq_true (show L.length≤400 by rw[←HLN.out];omega),HT.out,HXO.out,HPO.out,decide_eq_true (show pb.nestOf L<0 by omega)]
  simp)
 have htr:treeOk l=true:=by have:=HXO.out;unfold rt.exprOk at this;rw[Bool.and_eq_true]at this;exact this.1
 have hlast:isExpr (rt.lastK l)=true:=by have:=HXO.out;unfold rt.exprOk at this;rw[Bool.and_eq_true]at this;exact this.2
 obtain⟨s1,s2,-⟩:=nd.shape_yes (et.tree_parts htr).1
 obtain⟨R,hR⟩:∃R:Nat,m=R+1:=⟨m-1,by have:=HLM.out;omega⟩
 have hRi:(m:Int)-1=(R:Int):=by omega
 have HRL:=hid (show l.length-1=R by have:=HLM.out;omega)
 have HTR:=hid htr
 have HLA:=hid (show isExpr (l.getD R default).k=true by have:=hlast;unfold rt.lastK at this;rw[HRL.out]at this;exact this)
 have HR:=hid hR
 have I:=hid (show L.length≤400 by rw[←HLN.out];omega)
 have J:=hid s2
 obtain⟨V,hV⟩:∃V,V=(w4.alloc (.map #[] 0)).alloc (.cells #[.slice aL n cL,.slice aX m cX,.map (some w4.heap.size)] 63):=⟨_,rfl⟩
 have hbV:Below w4.heap.size w4 V:=by rw[hV];exact((Below.refl _ _).alloc (Nat.le_refl _) _).alloc (by simp) _
 have HBV:=hid (B4.trans (hbV.mono B4.size))
 have PV:=hid (P4.on hbV)
 obtain⟨E,hEn⟩:∃E:En,E=⟨L,l,aL,cL,aX,cX,w4.heap.size+1,w4.heap.size,w⟩:=⟨_,rfl⟩
 have HEV:=hid (show Ev E by
  rw[hEn]
  exact⟨HL.out,HX.out,HH.out,I.out,J.out,HTR.out,sym_tx HT.out (.inr rfl),sym_tx HT.out (.inl rfl)⟩)
 have HDR:=hid (show Dr E V by
  refine⟨HEV.out, ?_, ?_, ?_, ?_, ?_⟩
  ·rw[hEn];exact HBV.out
  ·rw[hEn,hV,HLN.out,HLM.out];exact(two_boxes w4 _ _).2
  ·rw[hEn,hV]
   exact(Memo.start L l w4).kept (by rw[(two_boxes w4 _ _).1];exact(heap_alloc_new w4 _).symm)
  ·rw[hEn];exact B4.size
  ·rw[hEn];exact Nat.lt_succ_self _)
 have HEX:=hid (fun(h:R<E.l.length) (hx:isExpr (E.l.getD R default).k=true)=>(ec_all HEV.out R h hx).2 p (some 0) V HDR.out (fun b hb=>by(injection hb with hb;omega)) HPO.out)
 have e0:E.l=l:=by rw[hEn]
 have e1:E.L=L:=by rw[hEn]
 have e2:E.bd=w4.heap.size+1:=by rw[hEn]
 have e3:E.mb=w4.heap.size:=by rw[hEn]
 have HEY:=hid (show Calls Tryz.prog 33 #[.pointer (some ⟨w4.heap.size+1,0,none⟩),.int .i64 (R:Int),.int .i64 0,.agg #[.int .i64 p.l,.bool p.d,.bool p.i,.bool p.g,.bool p.s]] V (fun e w'=>e= .returned (.int .i64 (co (Ee L l R 0 p)))∧Below w.heap.size w w') by
  have:=HEX.out (by rw[e0];have:=HLM.out;omega) (by rw[e0];exact HLA.out)
  rw[e2]at this
  refine this.mono ?_
  rintro e w' ⟨rfl,-,h3,-⟩
  refine⟨by rw[e0,e1];rfl,HBV.grown h3 HBV.size (fun k hk=> ?_)⟩
  rw[e3]at hk
  injection hk with hk
  rw[←hk]
  exact B4.size)
 have p0:=PV.c
 rw[hV]at p0
 clear htr hlast s1 s2 hbV hEn e0 e1 e2 e3 hN hR
 have O:¬0≤N:=hz
 go_wp2_with fail
 rw[←hV]
 clear hV
 refine HEY.mono ?_
 rintro e w6 ⟨rfl,b6⟩
 have B6:=hid b6
 have HC:=hid (show(co (Ee L l R 0 p)==(n:Int))=D by rw[co_eq,HDE.out,HRL.out,←HLN.out])
 have hc:=HC.out
 clear b6
 go_wp2
 go_ret
 exact⟨by rfl,B6.out⟩
end Go.Proofs.YtnoagleifffkcaaGreatDoor.dm

namespace Go.Proofs.YtnoagleifffkcaaGreatDoor.dm
open Go.ChangeShapes Go.WideShapes Go.ChangeAt Go.RowKit
open ps (Ps posOk)
open tk (Tk)
open nd (Nd)
open rb (Ee)
set_option linter.unusedVariables false
set_option linter.unusedSimpArgs false
theorem der_yes{l:List Nd}(h:rt.exprOk l=true)(hs:∀t∈l,t.s.size≤1048576){p:Ps}(hp:posOk p.l p.d=true)(hd:nd.depthF l≤39)(hn:(tw.etoks l p).length≤400):derB (tw.etoks l p) l p=true:=by
 obtain⟨ht,h0,hk⟩:=tw.expr_parts h
 have hok:=(rb.etoks_ok h hs hp).1
 have hE:=rb.der_own h hp (fun j hj=>sym_tx hok (.inr rfl) j hj)
 rw[rb.Ee_root ht (by omega) hk]at hE
 unfold derB
 rw[decide_eq_true hn,hok,h,hp,rb.etoks_nest h hp (.inl hd),decide_eq_true hE]
 rfl
theorem der_uniq{l x:List Nd}(h:rt.exprOk l=true)(hs:∀t∈l,t.s.size≤1048576){p:Ps}(hp:posOk p.l p.d=true)(hd:derB (tw.etoks l p) x p=true):l=x:=by
 have hok:=(rb.etoks_ok h hs hp).1
 unfold derB at hd
 simp only[Bool.and_eq_true,decide_eq_true_eq]at hd
 obtain⟨-,-,hx,-,-,hE⟩:=hd
 obtain⟨ht,h0,hk⟩:=tw.expr_parts hx
 rw[←rb.Ee_root ht (by omega) hk]at hE
 exact rb.der_one h hx hp (fun j hj=>sym_tx hok (.inr rfl) j hj) hE
end Go.Proofs.YtnoagleifffkcaaGreatDoor.dm
