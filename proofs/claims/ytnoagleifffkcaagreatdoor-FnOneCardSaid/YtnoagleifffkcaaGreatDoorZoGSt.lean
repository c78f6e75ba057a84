/-

-/
import Derived.Test.YtnoagleifffkcaaGreatDoorZoGTm
import Derived.Test.YtnoagleifffkcaaGreatDoorZoGNd
import Derived.Test.YtnoagleifffkcaaGreatDoorZoNdEq
namespace Go.Proofs.YtnoagleifffkcaaGreatDoor.nd
open Lib (hid)
open Go.ChangeShapes Go.WideShapes Go.ChangeAt Go.RowKit
set_option linter.unusedVariables false
set_option maxRecDepth 20000
def RelSt(B:Nat)(W:World)(l:List Nd)(v i:Value)(wr:World):Prop:=
 ∃(I:Nat) (ss:List Nat),I≤l.length∧OwnI B v (ints ss) wr∧i= .int .i64 (I:Int)∧ss.length=I∧Low ss∧stF (l.drop I) ss=stF l []∧Below B W wr
def RelBk(ss:List Nat)(kids:List Int)(I:Nat)(p k:Value):Prop:=
 ∃(K P:Nat) (kk:Int),K≤kids.length∧p= .int .i64 (P:Int)∧k= .int .i64 kk∧kk=(K:Int)-1∧P≤I∧back ss (kids.take K).reverse P=back ss kids.reverse I
def StOut(l:List Nd)(w:World)(e:Ending)(w':World):Prop:=
 ∃a' c',e= .returned (.tuple #[.slice a' (stR l).length c',.bool (stB l)])∧Below w.heap.size w w'∧Ints w'.heap.size w' a' (ints (stR l))
set_option maxHeartbeats 3200000 in
theorem spec_starts(l:List Nd)(a:Option Addr)(cap:Nat)(w:World)(hn:l.length≤1048576)(hk:∀t∈l,t.kids.length≤1048576)(hc:Lies w.heap.size w a l):
  Calls Tryz.prog 94 #[.slice a l.length cap] w (StOut l w):=by
 have HC:=hid hc
 have HKL:=hid hk
 have F:=hid (OwnI.lit (Nat.le_refl w.heap.size))
 clear hc hk
 go_enter Tryz.func94,Tryz.ntmps94
 go_wp2
 go_loopw [4,5] (fun v i wr=>RelSt w.heap.size w l v i wr) (fun _ i _=>l.length-(intOf i).toNat)
 case atStart=>exact⟨0,[],by omega,F.out,rfl,rfl,Low.nil,by simp,(Below.refl _ _).alloc (Nat.le_refl _) _⟩
 case round=>
  obtain⟨I,ss,hI,hown,rfl,hlen,hlow,hst,hbel⟩:=hrel
  have HOWN:=hid hown
  have HLOW:=hid hlow
  have HST:=hid hst
  have HB:=hid hbel
  have HLEN:=hid hlen
  obtain⟨av,cv,rfl⟩:=hown.form
  clear hlow hst hbel hown
  by_cases hlt:I<l.length
  ·obtain⟨b,o,rfl,hb,hcell⟩:=lies_at HC.out hlt
   obtain⟨ak,ck,⟨c0,c1,c2,c3,c4⟩,hik⟩:=(hcell I hlt).keep HB.out (Nat.le_refl _) hb
   have j:=hid (fun s=>stF_step hlt (ss:=ss) (s:=s))
   have e:=hid (stF_none hlt (ss:=ss))
   have hkl:=HKL.out l[I] (List.getElem_mem hlt)
   obtain⟨t,ht⟩:∃t,t=l[I]:=⟨_,rfl⟩
   rw[←ht]at c4 hik j e hkl
   have HIK:=hid hik
   clear ht hcell c0 c1 c2 c3 hik
   have O:(I:Int)<(l.length:Int):=by omega
   have ab:(0:Int)≤(I:Int):=by omega
   rw[ints_len,hlen]
   go_wp2
   go_loop [6,7] (fun p k=>RelBk ss t.kids I p k) (fun _ k=>(intOf k+1).toNat)
   case atStart=>exact⟨t.kids.length,I,_,Nat.le_refl _,rfl,rfl,rfl,Nat.le_refl _,by rw[List.take_length]⟩
   case round=>
    obtain⟨K,P,kk,hK,rfl,rfl,hkk,hP,hback⟩:=hrel
    have HBK:=hid hback
    clear hback
    by_cases hK0:K=0
    ·have hneg:¬(0:Int)≤kk:=by omega
     have HRES:=hid (show back ss t.kids.reverse ss.length=some P by rw[HLEN.out,←HBK.out,hK0];rfl)
     have HNEW:=hid (show stF (l.drop (I+1)) (ss++[P])=stF l [] by rw[←j.out P HRES.out];exact HST.out)
     have HLN:=hid (HLOW.snoc (s:=P) (by rw[HLEN.out];exact hP))
     have y:(ints ss).length≤1048576:=by rw[ints_len,HLEN.out];omega
     have HBS:=hid HB.size
     have G:=hid (show OwnI w.heap.size (.slice av I cv) (ints ss) wr by have:=HOWN.out;rwa [ints_len,HLEN.out]at this)
     clear hkk hK0
     go_wp2_with (refine wpList_append_int _ (P:Int) rfl _ _ rfl w.heap.size _ (ints ss) rfl G.out rfl y HBS.out ?_;intro v' w2 J b2 Y)
     go_roundw
     case rel=>exact⟨I+1,ss++[P],by omega,by rw[ints_snoc];exact J,by go_num,by simp[HLEN.out],HLN.out,HNEW.out,HB.trans b2⟩
     case measure=>simp[intOf];omega
    ·obtain⟨K,rfl⟩:∃K',K=K'+1:=⟨K-1,by omega⟩
     obtain rfl:kk=(K:Int):=by omega
     have hKl:K<t.kids.length:=by omega
     obtain⟨bk,ok,rfl,hbk,hkc⟩:=ints_at HIK.out hKl
     have d0:=hkc K hKl
     have HTR:=hid (take_rev hKl)
     obtain⟨x,hx⟩:∃x,x=t.kids[K]:=⟨_,rfl⟩
     rw[←hx]at d0 HTR
     have Z:(K:Int)<(t.kids.length:Int):=by omega
     have X:(0:Int)≤(K:Int):=by omega
     clear hx hkc hkk hK0
     by_cases hP0:P=0
     ·subst hP0
      have HNO:=hid (show stF l []=none by
       rw[←HST.out]
       refine e.out ?_
       rw[HLEN.out,←HBK.out,HTR.out]
       exact back_no (fun h=>h.2 rfl))
      have HR:=hid (show stR l=[] by unfold stR;rw[HNO.out];rfl)
      have HBB:=hid (show stB l=false by unfold stB;rw[HNO.out];rfl)
      by_cases hx1:x= -1
      ·obtain⟨q1,q2⟩:=eq_facts hx1
       clear hx1
       go_wp2
       refine bodyPost_ret (v:= .tuple #[.slice (some ⟨wr.heap.size,0,none⟩) 0 0,.bool false]) (by simp[results,Tryz.results94,go_sem]) rfl ?_
       exact⟨some ⟨wr.heap.size,0,none⟩,0,by rw[HR.out,HBB.out];rfl,HB.alloc HB.size _,.inl (by rw[HR.out];rfl)⟩
      ·obtain⟨q1,q2⟩:=ne_facts hx1
       clear hx1
       go_wp2
       refine bodyPost_ret (v:= .tuple #[.slice (some ⟨wr.heap.size,0,none⟩) 0 0,.bool false]) (by simp[results,Tryz.results94,go_sem]) rfl ?_
       exact⟨some ⟨wr.heap.size,0,none⟩,0,by rw[HR.out,HBB.out];rfl,HB.alloc HB.size _,.inl (by rw[HR.out];rfl)⟩
     ·obtain⟨P,rfl⟩:∃P',P=P'+1:=⟨P-1,by omega⟩
      clear hP0
      by_cases hx1:x=(P:Int)
      ·obtain⟨q1,q2⟩:=eq_facts hx1
       have hPl:P<ss.length:=by rw[HLEN.out];omega
       have HNX:=hid (show back ss (t.kids.take K).reverse (ss[P]'hPl)=back ss t.kids.reverse I by
        rw[←HBK.out,HTR.out,back_yes (by rw[hx1];omega) (by omega)]
        simp[hPl])
       have HPS:=hid (HLOW.out P hPl)
       obtain⟨S,hS⟩:∃S,S=ss[P]'hPl:=⟨_,rfl⟩
       rw[←hS]at HNX HPS
       have hcell:∃g,av=some ⟨g,0,none⟩∧wr.cell? ⟨g,P,none⟩=some (.int .i64 (S:Int)):=by
        rcases HOWN.blk with ⟨_,h⟩|⟨g,c,hv,_,h⟩
        ·have h':ss.length=0:=by rw[←ints_len,h];rfl
         omega
        ·injection hv with hv1 _ _
         refine⟨g,hv1, ?_⟩
         have:=h.at P (by rw[ints_len];exact hPl)
         rw[ints_get hPl,←hS]at this
         exact this
       obtain⟨g,rfl,c9⟩:=hcell
       have V:(P:Int)<(I:Int):=by omega
       have aa:(0:Int)≤(P:Int):=by omega
       have hz:(((P:Int)+1)==0)=false:=by simp;omega
       clear hx1 hS
       go_wp2
       go_round
       case rel=>exact⟨K,S,_,by omega,rfl,rfl,by omega,by have:=HPS.out;omega,HNX.out⟩
       case measure=>simp[intOf]
      ·obtain⟨q1,q2⟩:=ne_facts hx1
       have HNO:=hid (show stF l []=none by
        rw[←HST.out]
        refine e.out ?_
        rw[HLEN.out,←HBK.out,HTR.out]
        exact back_no (fun h=>hx1 (by rw[h.1];omega)))
       have HR:=hid (show stR l=[] by unfold stR;rw[HNO.out];rfl)
       have HBB:=hid (show stB l=false by unfold stB;rw[HNO.out];rfl)
       clear hx1
       go_wp2
       refine bodyPost_ret (v:= .tuple #[.slice (some ⟨wr.heap.size,0,none⟩) 0 0,.bool false]) (by simp[results,Tryz.results94,go_sem]) rfl ?_
       exact⟨some ⟨wr.heap.size,0,none⟩,0,by rw[HR.out,HBB.out];rfl,HB.alloc HB.size _,.inl (by rw[HR.out];rfl)⟩
  ·obtain rfl:I=l.length:=by omega
   have HE:=hid (show stF l []=some ss by rw[←HST.out,List.drop_length];rfl)
   have HR:=hid (show stR l=ss by unfold stR;rw[HE.out];rfl)
   have HBB:=hid (show stB l=true by unfold stB;rw[HE.out];rfl)
   go_wp2
   refine bodyPost_ret (v:= .tuple #[.slice av (ints ss).length cv,.bool true]) (by simp[results,Tryz.results94,go_sem]) rfl ?_
   exact⟨av,cv,by rw[HR.out,HBB.out,ints_len],HB.out,by rw[HR.out];exact HOWN.ints⟩
def inR(n a b:Int):Bool:=decide (a≤n)&&decide (n≤b)
theorem inR_yes{n a b:Int}(h1:a≤n)(h2:n≤b):inR n a b=true:=by simp[inR,h1,h2]
theorem inR_no{n a b:Int}(h:¬(a≤n∧n≤b)):inR n a b=false:=by
 unfold inR
 by_cases h1:a≤n
 ·have:¬n≤b:=fun h2=>h ⟨h1,h2⟩
  simp[this]
 ·simp[h1]
theorem spec_in(n a b:Int)(w:World):Calls Tryz.prog 30 #[.int .i64 n,.int .i64 a,.int .i64 b] w fun e w'=>e= .returned (.bool (inR n a b))∧w=w':=by
 by_cases h1:a≤n
 ·by_cases h2:n≤b
  ·have HE:=hid (show inR n a b=true by simp[inR,h1,h2])
   go_enter Tryz.func30,Tryz.ntmps30
   go_wp2
   go_ret
   exact⟨by rw[HE.out];rfl,rfl⟩
  ·have HE:=hid (show inR n a b=false by simp[inR,h1,h2])
   go_enter Tryz.func30,Tryz.ntmps30
   go_wp2
   go_ret
   exact⟨by rw[HE.out];rfl,rfl⟩
 ·have HE:=hid (show inR n a b=false by simp[inR,h1])
  go_enter Tryz.func30,Tryz.ntmps30
  go_wp2
  go_ret
  exact⟨by rw[HE.out];rfl,rfl⟩
end Go.Proofs.YtnoagleifffkcaaGreatDoor.nd

namespace Go.Proofs.YtnoagleifffkcaaGreatDoor.nd
open Lib (hid)
open Go.ChangeShapes Go.WideShapes Go.ChangeAt Go.RowKit
set_option linter.unusedVariables false
set_option maxRecDepth 20000
set_option maxHeartbeats 800000 in
theorem spec_shape(l:List Nd)(a:Option Addr)(cap:Nat)(w:World)(hn:l.length≤1048576)(hk:∀t∈l,t.kids.length≤1048576)(hc:Lies w.heap.size w a l):
  Calls Tryz.prog 56 #[.slice a l.length cap] w fun e w'=>e= .returned (.bool (shape l))∧Below w.heap.size w w':=by
 have HC:=hid hc
 have HK:=hid hk
 clear hc hk
 by_cases hin:1≤l.length∧l.length≤400
 ·have HI:=hid (inR_yes (n:=(l.length:Int)) (a:=1) (b:=400) (by omega) (by omega))
  have hlen:=hin.1
  have HIN:=hid hin
  cases hs:stF l []
  ·have HS:=hid (shape_no (stO_none hs))
   have HB:=hid (show stB l=false by unfold stB;rw[hs];rfl)
   clear hin hs
   go_enter Tryz.func56,Tryz.ntmps56
   go_wp2_with fail
   refine(spec_in _ _ _ _).mono ?_
   rintro e w2 ⟨he,rfl⟩
   rw[HI.out]at he
   subst he
   go_wp2_with fail
   refine(spec_starts l a cap _ hn HK.out HC.out).mono ?_
   rintro e w2 ⟨a2,c2,he,b2,i2⟩
   rw[HB.out]at he
   subst he
   go_wp2
   go_ret
   exact⟨by rw[HS.out];rfl,b2⟩
  ·rename_i ss
   have HB:=hid (show stB l=true by unfold stB;rw[hs];rfl)
   have HR:=hid (show stR l=ss by unfold stR;rw[hs];rfl)
   have hsl:ss.length=l.length:=by have:=stF_len hs;simpa using this
   obtain⟨n,j⟩:∃n,l.length=n+1:=⟨l.length-1,by omega⟩
   have hln:n<ss.length:=by omega
   obtain⟨S,hS⟩:∃S,S=ss[n]'hln:=⟨_,rfl⟩
   have hget:ss.getD (l.length-1) 0=S:=by
    rw[hS,j];simp[hln]
   have HSH:=hid (show shape l=((S:Int)==0) by
    by_cases h0:S=0
    ·rw[shape_of (by omega) (by omega) hs (by rw[hget,h0]),h0];rfl
    ·rw[shape_no (stO_last hs (by rw[hget];exact h0))]
     symm
     simp
     exact h0)
   have HS:=hid hS
   have HL:=hid hsl
   have F:=HC.out
   clear hin hs hget hS hlen
   rw[j]at hsl HI hn⊢
   have i1:(n:Int)<((n:Int)+1):=by omega
   have i0:(0:Int)≤(n:Int):=by omega
   go_enter Tryz.func56,Tryz.ntmps56
   go_wp2_with fail
   rw[show((n:Int)+1)=((n+1:Nat):Int) by omega]
   refine(spec_in _ _ _ _).mono ?_
   rintro e w2 ⟨he,rfl⟩
   rw[HI.out]at he
   subst he
   go_wp2_with fail
   rw[←j]
   refine(spec_starts l a cap _ (by omega) HK.out F).mono ?_
   rintro e w2 ⟨a2,c2,he,b2,i2⟩
   rw[HB.out,HR.out,HL.out,j]at he
   rw[HR.out]at i2
   subst he
   obtain⟨b3,o3,rfl,_,y⟩:=ints_at i2 (I:=n) (by rw[ints_len,HL.out];omega)
   have c3:=y n (by rw[ints_len,HL.out];omega)
   rw[ints_get hln,←HS.out]at c3
   have B2:=hid b2
   clear y i2 b2
   go_wp2
   go_ret
   exact⟨by rw[HSH.out];rfl,B2.out⟩
 ·have HI:=hid (inR_no (n:=(l.length:Int)) (a:=1) (b:=400) (by omega))
  have HS:=hid (shape_no (stO_out (l:=l) (by omega)))
  clear hin
  go_enter Tryz.func56,Tryz.ntmps56
  go_wp2_with fail
  refine(spec_in _ _ _ _).mono ?_
  rintro e w2 ⟨he,rfl⟩
  rw[HI.out]at he
  subst he
  go_wp2
  go_ret
  exact⟨by rw[HS.out];rfl,Below.refl _ _⟩
end Go.Proofs.YtnoagleifffkcaaGreatDoor.nd

namespace Go.Proofs.YtnoagleifffkcaaGreatDoor.nd
open Lib (hid)
open Go.ChangeShapes Go.WideShapes Go.ChangeAt Go.RowKit
set_option linter.unusedVariables false
theorem subtree(ss:List Nat)(zs:List Int)(a a':Option Addr)(cap cap':Nat)(w:World)(hl:Low ss)(hs:ss.length≤1048576)(hreach:zs.length≤1048576)(hc:Ints w.heap.size w a (ints ss))(hc':Ints w.heap.size w a' zs):
  Calls Tryz.prog 196 #[.slice a ss.length cap,.slice a' zs.length cap'] w fun e W'=>e= .returned (.int .i64 (subF ss zs))∧Below w.heap.size w W':=
 (callsIn_wide (n:=3)).1 (subtree_in Fence.wide 3 trivial trivial trivial rfl (Nat.le_refl _) ss zs a a' cap cap' w hl hs hreach hc hc')
theorem make_ints0(n:Nat)(hn:n≤1048576)(w:World):
  (Instr.makeSlice 55 (.int .i64 0) (.int .i64 (n:Int))).run Tryz.prog w= .ok (.slice (some ⟨w.heap.size,0,none⟩) 0 n) (w.alloc (.cells (madeCells #[.int .i64 0] n) 3)):=by
 obtain⟨i,hi,hz⟩:=Option.map_eq_some_iff.1 Tryz.infoInt
 simp only[Prod.mk.injEq]at hz
 obtain⟨e,hs,hb⟩:=hz
 have:=run_make (P:=Tryz.prog) w 55 3 i _ Tryz.underlying55 hi e .i64 .i64 0 n (by omega) (by omega) (by rw[hb];omega) (by omega)
 rw[hs,Nat.mul_one]at this
 exact this
theorem OwnI.made{B:Nat}{w:World}(n:Nat)(hn:n≤1048576)(hB:B≤w.heap.size):OwnI B (.slice (some ⟨w.heap.size,0,none⟩) 0 n) [] (w.alloc (.cells (madeCells #[.int .i64 0] n) 3)):=
 ⟨rfl,.inr ⟨w.heap.size,n,_,rfl,hB,heap_alloc_new w _,Nat.zero_le _,by unfold maxLen;omega,by simp[madeCells],by simp[ivals]⟩⟩
def SoOut(l:List Nd)(w:World)(e:Ending)(w':World):Prop:=
 ∃a' c',e= .returned (.slice a' (stO l).length c')∧Below w.heap.size w w'∧Ints w'.heap.size w' a' (ints (stO l))
theorem SoOut.none{l:List Nd}{w w':World}(h:stO l=[])(hb:Below w.heap.size w w'):SoOut l w (.returned (.slice .none 0 0)) w':=
 ⟨.none,0,by rw[h];rfl,hb,.inl (by rw[h];rfl)⟩
def RelSo(B:Nat)(W:World)(l:List Nd)(v i:Value)(wr:World):Prop:=
 ∃(I:Nat) (ss:List Nat),I≤l.length∧OwnI B v (ints ss) wr∧i= .int .i64 (I:Int)∧ss.length=I∧Low ss∧stF (l.drop I) ss=stF l []∧Below B W wr
set_option maxRecDepth 20000 in
set_option maxHeartbeats 1600000 in
theorem starts_impl(l:List Nd)(a:Option Addr)(cap:Nat)(w:World)(hn:l.length≤1048576)(hk:∀t∈l,t.kids.length≤1048576)(hc:Lies w.heap.size w a l):
  Calls Tryz.prog 133 #[.slice a l.length cap] w (SoOut l w):=by
 have HC:=hid hc
 have HKL:=hid hk
 clear hc hk
 by_cases h0:l.length=0
 ·have HX:=hid (stO_out (.inl h0))
  rw[h0]
  clear h0 hn
  go_enter Tryz.func133,Tryz.ntmps133
  go_wp2
  go_ret
  exact SoOut.none HX.out (Below.refl _ _)
 obtain⟨n,hln⟩:∃n,l.length=n+1:=⟨l.length-1,by omega⟩
 clear h0
 have HLN:=hid hln
 rw[hln]at hn⊢
 have z1:(((n:Int)+1)==0)=false:=by simp;omega
 by_cases hbig:399<n
 ·have HX:=hid (stO_out (l:=l) (.inr (by omega)))
  have g1:(400:Int)<(n:Int)+1:=by omega
  have g2:400<n+1:=by omega
  clear hbig hln
  go_enter Tryz.func133,Tryz.ntmps133
  go_wp2
  go_ret
  exact SoOut.none HX.out (Below.refl _ _)
 have g1:¬(400:Int)<(n:Int)+1:=by omega
 have g2:¬400<n+1:=by omega
 have g3:decide (400<n+1)=false:=decide_eq_false g2
 have HBIG:=hid hbig
 have hmk:∀w:World,(Instr.makeSlice 55 (.int .i64 0) (.int .i64 ((n:Int)+1))).run Tryz.prog w= .ok (.slice (some ⟨w.heap.size,0,none⟩) 0 (n+1)) (w.alloc (.cells (madeCells #[.int .i64 0] (n+1)) 3)):=fun w=>by
  have:=make_ints0 (n+1) hn w
  rwa [show((n+1:Nat):Int)=(n:Int)+1 by omega]at this
 have V:=hid (OwnI.made (B:=w.heap.size) (w:=w) (n+1) hn (Nat.le_refl _))
 clear hbig hln
 go_enter Tryz.func133,Tryz.ntmps133
 go_wp2
 go_loopw [3,20] (fun v i wr=>RelSo w.heap.size w l v i wr) (fun _ i _=>n+1-(intOf i).toNat)
 case atStart=>exact⟨0,[],by omega,V.out,rfl,rfl,Low.nil,by simp,(Below.refl _ _).alloc (Nat.le_refl _) _⟩
 case round=>
  obtain⟨I,ss,hI,hown,rfl,hlen,hlow,hst,hbel⟩:=hrel
  have HOWN:=hid hown
  have HLOW:=hid hlow
  have HST:=hid hst
  have HB:=hid hbel
  have HLEN:=hid hlen
  obtain⟨av,cv,rfl⟩:=hown.form
  rw[HLN.out]at hI
  clear hlow hst hbel hown
  by_cases hlt:I<n+1
  ·have hltl:I<l.length:=by have:=HLN.out;omega
   obtain⟨b,o,rfl,hb,hcell⟩:=lies_at HC.out hltl
   obtain⟨ak,ck,⟨c0,c1,c2,c3,c4⟩,hik⟩:=(hcell I hltl).keep HB.out (Nat.le_refl _) hb
   have F:=hid (fun s=>stF_step hltl (ss:=ss) (s:=s))
   have G:=hid (stF_none hltl (ss:=ss))
   have HKK:=hid (HKL.out l[I] (List.getElem_mem hltl))
   obtain⟨t,ht⟩:∃t,t=l[I]:=⟨_,rfl⟩
   rw[←ht]at c0 c1 c2 c3 c4 hik F G HKK
   have HIK:=hid hik
   clear ht hcell hik
   have Y:(I:Int)<(n:Int)+1:=by omega
   have ab:(0:Int)≤(I:Int):=by omega
   rw[ints_len]
   have hle:ss.length≤1048576:=by rw[HLEN.out];omega
   have HLE:=hid hle
   clear hlen
   go_wp2_with fail
   have j:=(Below.refl wr.heap.size wr).alloc (Nat.le_refl _) (.cells #[.int .i64 t.k,.int .i64 t.op,.string t.s,.string t.t,.slice ak t.kids.length ck] 57)
   refine(subtree ss t.kids av ak cv ck _ HLOW.out HLE.out HKK.out ((HOWN.ints.keep j (Nat.le_refl _)).up j.size) (((HIK.up HB.size).keep j (Nat.le_refl _)).up j.size)).mono ?_
   rintro e w2 ⟨he,b2⟩
   have J:=hid (j.trans (b2.mono j.size))
   have y:=hid (HB.trans (J.mono HB.size))
   have X:=hid (show OwnI w.heap.size (.slice av ss.length cv) (ints ss) w2 by have:=HOWN.keep J.out (Nat.le_refl _);rwa [ints_len]at this)
   clear j b2
   cases hbk:back ss t.kids.reverse ss.length
   ·rw[sub_none hbk]at he
    subst he
    have HX:=hid (stO_none (show stF l []=none by rw[←HST.out];exact G.out hbk))
    clear hbk
    go_wp2
    go_ret
    exact SoOut.none HX.out y.out
   ·rename_i s
    rw[sub_some hbk]at he
    subst he
    have HNEW:=hid (show stF (l.drop (I+1)) (ss++[s])=stF l [] by rw[←F.out s hbk];exact HST.out)
    have O:=hid (HLOW.snoc (back_le HLOW.out _ _ _ (Nat.le_refl _) hbk))
    have P:(ints ss).length≤1048576:=by rw[ints_len];exact HLE.out
    have HBS:=hid y.size
    have Z:¬(s:Int)<0:=by omega
    clear hbk hle g3
    go_wp2_with (refine wpList_append_int _ (s:Int) rfl _ _ rfl w.heap.size _ (ints ss) rfl X.out rfl P HBS.out ?_;intro v' w3 K b3 aa)
    go_roundw
    case rel=>exact⟨I+1,ss++[s],by have:=HLN.out;omega,by rw[ints_snoc];exact K,by go_num,by simp[HLEN.out],O.out,HNEW.out,y.trans b3⟩
    case measure=>simp[intOf];omega
  ·obtain rfl:I=n+1:=by omega
   have HE:=hid (show stF l []=some ss by rw[←HST.out,←HLN.out,List.drop_length];rfl)
   have hnl:n<ss.length:=by omega
   obtain⟨b,o,rfl,hb,hcell⟩:=ints_at HOWN.ints (I:=n) (by rw[ints_len];exact hnl)
   have c9:=hcell n (by rw[ints_len];exact hnl)
   rw[ints_get hnl]at c9
   obtain⟨S,hS⟩:∃S,S=ss[n]'hnl:=⟨_,rfl⟩
   rw[←hS]at c9
   have hget:ss.getD (l.length-1) 0=S:=by rw[hS,HLN.out];simp[hnl]
   have HG:=hid hget
   have i1:(n:Int)<(n:Int)+1:=by omega
   have i0:(0:Int)≤(n:Int):=by omega
   rw[ints_len,hlen]
   clear hcell hget hS
   by_cases hS0:S=0
   ·have q:((S:Int) !=0)=false:=by rw[hS0];rfl
    have HX:=hid (stO_some (by have:=HLN.out;omega) (by have:=HLN.out;have:=HBIG.out;omega) HE.out (by rw[HG.out,hS0]))
    clear hS0
    go_wp2
    go_ret
    exact⟨some ⟨b,o,none⟩,cv,by rw[HX.out,HLEN.out];rfl,HB.out,by rw[HX.out];exact HOWN.ints⟩
   ·have q:((S:Int) !=0)=true:=by simp;exact hS0
    have HX:=hid (stO_last HE.out (by rw[HG.out];exact hS0))
    clear hS0
    go_wp2
    go_ret
    exact SoOut.none HX.out HB.out
theorem impl_shape(l:List Nd)(a:Option Addr)(cap:Nat)(w:World)(hn:l.length≤1048576)(hk:∀t∈l,t.kids.length≤1048576)(hc:Lies w.heap.size w a l):
  Calls Tryz.prog 85 #[.slice a l.length cap] w fun e w'=>e= .returned (.bool (shape l))∧Below w.heap.size w w':=by
 have HX:=hid (starts_impl l a cap w hn hk hc)
 clear hc hk
 cases hs:shape l
 ·have h0:¬0<(stO l).length:=of_decide_eq_false hs
  have hz:(stO l).length=0:=by omega
  have HZ:=hid hz
  have HS:=hid hs
  clear h0 hz hs
  go_enter Tryz.func85,Tryz.ntmps85
  go_wp2_with fail
  refine HX.mono ?_
  rintro e w2 ⟨a2,c2,rfl,b2,_⟩
  rw[HZ.out]
  go_wp2
  go_ret
  exact⟨rfl,b2⟩
 ·have h0:0<(stO l).length:=of_decide_eq_true hs
  obtain⟨m,hm⟩:∃m,m=(stO l).length:=⟨_,rfl⟩
  have HM:=hid hm
  rw[←hm]at h0
  have h1:(0:Int)<(m:Int):=by omega
  clear hm hs
  go_enter Tryz.func85,Tryz.ntmps85
  go_wp2_with fail
  refine HX.mono ?_
  rintro e w2 ⟨a2,c2,rfl,b2,_⟩
  rw[←HM.out]
  go_wp2
  go_ret
  exact⟨rfl,b2⟩
end Go.Proofs.YtnoagleifffkcaaGreatDoor.nd
