/-

-/
import Derived.Test.YtnoagleifffkcaaGreatDoorZoGTm
import Derived.Test.YtnoagleifffkcaaGreatDoorZoGSt
import Derived.BigRegion
namespace Go.Proofs.YtnoagleifffkcaaGreatDoor.nd
set_option linter.unusedVariables false
theorem back_mem{ss:List Nat}(hl:Low ss):∀(ks:List Int) (p s:Nat),p≤ss.length→back ss ks p=some s→∀k∈ks,0≤k∧k<p:=by
 intro ks
 induction ks with
 |nil=>intro p s _ _ k hk;cases hk
 |cons x ks ih=>
  intro p s hp h k hk
  by_cases hc:x=(p:Int)-1∧p≠0
  ·rw[back_yes hc.1 hc.2]at h
   have hg:=hl.get (i:=p-1) (by omega)
   rcases List.mem_cons.1 hk with e|e
   ·rw[e];omega
   ·have:=ih _ s (by omega) h k e
    omega
  ·rw[back_no hc]at h;cases h
theorem stF_at:∀(l:List Nd) (ss r:List Nat),stF l ss=some r→(∃q,r=ss++q)∧∀i (h:i<l.length),∃s,r[ss.length+i]? =some s∧back (r.take (ss.length+i)) l[i].kids.reverse (ss.length+i)=some s:=by
 intro l
 induction l with
 |nil=>intro ss r h;simp[stF]at h;subst h;exact⟨⟨[],by simp⟩,fun i hi=>by simp at hi⟩
 |cons n l ih=>
  intro ss r h
  unfold stF at h
  split at h
  ·cases h
  ·next s hs=>
   obtain⟨⟨q,hq⟩,hi⟩:=ih _ _ h
   have e:r=ss++(s::q):=by rw[hq,List.append_assoc];rfl
   refine⟨⟨s::q,e⟩,fun i hlt=> ?_⟩
   cases i with
   |zero=>
    refine⟨s, ?_, ?_⟩
    ·rw[e];simp
    ·rw[e,Nat.add_zero,List.take_left]
     exact hs
   |succ i=>
    obtain⟨s',h1,h2⟩:=hi i (by simpa using hlt)
    simp only[List.length_append,List.length_cons,List.length_nil,Nat.zero_add]at h1 h2
    rw[show ss.length+(i+1)=ss.length+1+i by omega]
    exact⟨s',h1,h2⟩
theorem shape_at{l:List Nd}(h:shape l=true){i:Nat}(hi:i<l.length):back ((stO l).take i) l[i].kids.reverse i=some ((stO l).getD i 0)∧∀k∈l[i].kids,0≤k∧k<(i:Int):=by
 obtain⟨_,_,hs,hlen,hlow,_⟩:=shape_yes h
 obtain⟨s,h1,h2⟩:=(stF_at l [] _ hs).2 i hi
 simp only[List.length_nil,Nat.zero_add]at h1 h2
 have hg:(stO l).getD i 0=s:=by rw[List.getD_eq_getElem?_getD,h1];rfl
 refine⟨by rw[hg];exact h2, ?_⟩
 have e:Low ((stO l).take i):=fun j hj=>by
  simp at hj
  rw[List.getElem_take]
  exact hlow j (by omega)
 intro k hk
 exact back_mem e _ i s (by simp;omega) h2 k (List.mem_reverse.2 hk)
def mx(d:List Nat)(ks:List Int):Nat:=ks.foldl (fun m k=>max m (d.getD k.toNat 0)) 0
theorem mx_snoc(d:List Nat)(ks:List Int)(k:Int):mx d (ks++[k])=max (mx d ks) (d.getD k.toNat 0):=by simp[mx]
theorem mx_step(d:List Nat){ks:List Int}{J:Nat}(h:J<ks.length):mx d (ks.take (J+1))=max (mx d (ks.take J)) (d.getD ks[J].toNat 0):=by
 rw[List.take_succ_eq_append_getElem h,mx_snoc]
def dF:List Nd→List Nat→List Nat
 |[],d=>d
 |n::l,d=>dF l (d++[mx d n.kids+1])
theorem dF_step{l:List Nd}{I:Nat}(h:I<l.length)(d:List Nat):dF (l.drop I) d=dF (l.drop (I+1)) (d++[mx d l[I].kids+1]):=by
 rw[List.drop_eq_getElem_cons h,dF]
def Deep(d:List Nat):Prop:=∀i (h:i<d.length),d[i]≤i+1
theorem Deep.nil:Deep []:=fun i h=>by simp at h
theorem Deep.getD{d:List Nat}(h:Deep d)(i:Nat):d.getD i 0≤d.length:=by
 rw[List.getD_eq_getElem?_getD]
 by_cases hi:i<d.length
 ·rw[List.getElem?_eq_getElem hi]
  have:=h i hi
  simp;omega
 ·rw[List.getElem?_eq_none (by omega)];simp
theorem mx_le{d:List Nat}(h:Deep d)(ks:List Int):mx d ks≤d.length:=by
 have key:∀(ks:List Int) (m:Nat),m≤d.length→ks.foldl (fun m k=>max m (d.getD k.toNat 0)) m≤d.length:=by
  intro ks
  induction ks with
  |nil=>intro m hm;exact hm
  |cons k ks ih=>intro m hm;exact ih _ (Nat.max_le.2 ⟨hm,h.getD _⟩)
 exact key ks 0 (Nat.zero_le _)
theorem Deep.snoc{d:List Nat}(h:Deep d)(ks:List Int):Deep (d++[mx d ks+1]):=fun i hi=>by
 simp at hi
 by_cases he:i<d.length
 ·rw[List.getElem_append_left he];exact h i he
 ·obtain rfl:i=d.length:=by omega
  rw[List.getElem_append_right (Nat.le_refl _)]
  have:=mx_le h ks
  simpa using this
def depthF(l:List Nd):Nat:=if shape l=true then(dF l []).getD (l.length-1) 0 else 0
end Go.Proofs.YtnoagleifffkcaaGreatDoor.nd

namespace Go.Proofs.YtnoagleifffkcaaGreatDoor.nd
open Lib (hid)
open Go.ChangeShapes Go.WideShapes Go.ChangeAt Go.RowKit
set_option linter.unusedVariables false
def RelDs(B:Nat)(W:World)(l:List Nd)(v i:Value)(wr:World):Prop:=
 ∃(I:Nat) (d:List Nat),I≤l.length∧OwnI B v (ints d) wr∧i= .int .i64 (I:Int)∧d.length=I∧Deep d∧dF (l.drop I) d=dF l []∧Below B W wr
def RelDk(d:List Nat)(kids:List Int)(n k:Value):Prop:=
 ∃J:Nat,J≤kids.length∧n= .int .i64 ((mx d (kids.take J):Nat)+1:Int)∧k= .int .i64 (J:Int)
set_option maxRecDepth 20000 in
set_option maxHeartbeats 1600000 in
theorem spec_depth(l:List Nd)(a:Option Addr)(cap:Nat)(w:World)(hn:l.length≤1048576)(hk:∀t∈l,t.kids.length≤1048576)(hc:Lies w.heap.size w a l):
  Calls Tryz.prog 57 #[.slice a l.length cap] w fun e w'=>e= .returned (.int .i64 (depthF l:Int))∧Below w.heap.size w w':=by
 have HC:=hid hc
 have HK:=hid hk
 clear hc hk
 cases hs:shape l
 ·have HE:=hid (show(depthF l:Int)=0 by unfold depthF;rw[hs];rfl)
  have HS:=hid hs
  clear hs
  go_enter Tryz.func57,Tryz.ntmps57
  go_wp2_with fail
  refine(spec_shape l a cap _ hn HK.out HC.out).mono ?_
  rintro e w2 ⟨he,b2⟩
  rw[HS.out]at he
  subst he
  go_wp2
  go_ret
  exact⟨by rw[HE.out];rfl,b2⟩
 ·have HE:=hid (show depthF l=(dF l []).getD (l.length-1) 0 by unfold depthF;rw[if_pos hs])
  have HS:=hid hs
  have HAT:=hid (fun i (hi:i<l.length)=>(shape_at hs hi).2)
  obtain⟨n,hln⟩:∃n,l.length=n+1:=⟨l.length-1,by have:=(shape_yes hs).1;omega⟩
  have HLN:=hid hln
  clear hs
  have HX:=hid (spec_shape l a cap w hn HK.out HC.out)
  rw[hln]at hn HX⊢
  clear hln
  go_enter Tryz.func57,Tryz.ntmps57
  go_wp2_with fail
  refine HX.mono ?_
  rintro e w2 ⟨he,b2⟩
  rw[HS.out]at he
  subst he
  have F:=hid b2
  have S:=hid (OwnI.lit (B:=w.heap.size) b2.size)
  clear b2
  go_wp2
  go_loopw [3,4] (fun v i wr=>RelDs w.heap.size w l v i wr) (fun _ i _=>n+1-(intOf i).toNat)
  case atStart=>exact⟨0,[],by omega,S.out,rfl,rfl,Deep.nil,by simp,F.alloc F.size _⟩
  case round=>
   obtain⟨I,d,hI,hown,rfl,hlen,hdeep,hst,hbel⟩:=hrel
   have HOWN:=hid hown
   have HDEEP:=hid hdeep
   have HST:=hid hst
   have HB:=hid hbel
   have HLEN:=hid hlen
   obtain⟨av,cv,rfl⟩:=hown.form
   rw[HLN.out]at hI
   clear hdeep hst hbel hown
   by_cases hlt:I<n+1
   ·have hltl:I<l.length:=by have:=HLN.out;omega
    obtain⟨b,o,rfl,hb,hcell⟩:=lies_at HC.out hltl
    obtain⟨ak,ck,⟨c0,c1,c2,c3,c4⟩,hik⟩:=(hcell I hltl).keep HB.out (Nat.le_refl _) hb
    have j:=hid (dF_step hltl d)
    have HKK:=hid (HK.out l[I] (List.getElem_mem hltl))
    have HKM:=hid (HAT.out I hltl)
    obtain⟨t,ht⟩:∃t,t=l[I]:=⟨_,rfl⟩
    rw[←ht]at c4 hik j HKK HKM
    have HIK:=hid hik
    have hkl:=HKK.out
    clear ht hcell hik c0 c1 c2 c3
    have Z:(I:Int)<(n:Int)+1:=by omega
    have ad:(0:Int)≤(I:Int):=by omega
    have V:=hid (show OwnI w.heap.size (.slice av I cv) (ints d) wr by have:=HOWN.out;rwa [ints_len,HLEN.out]at this)
    rw[ints_len,hlen]
    clear hlen
    go_wp2
    go_loop [5,6] (fun v k=>RelDk d t.kids v k) (fun _ k=>t.kids.length-(intOf k).toNat)
    case atStart=>exact⟨0,by omega,rfl,rfl⟩
    case round=>
     obtain⟨J,hJ,rfl,rfl⟩:=hrel
     have hml:=mx_le HDEEP.out (t.kids.take J)
     rw[HLEN.out]at hml
     obtain⟨M,hM⟩:∃M,M=mx d (t.kids.take J):=⟨_,rfl⟩
     have HM:=hid hM
     rw[←hM]at hml⊢
     clear hM
     by_cases hjt:J<t.kids.length
     ·obtain⟨bk,ok,rfl,hbk,hkc⟩:=ints_at HIK.out hjt
      have d0:=hkc J hjt
      have HTK:=hid (mx_step d hjt)
      have hmem:=HKM.out _ (List.getElem_mem hjt)
      obtain⟨y,hy⟩:∃y,y=t.kids[J]:=⟨_,rfl⟩
      rw[←hy]at d0 HTK hmem
      obtain⟨Y,rfl⟩:∃Y:Nat,y=(Y:Int):=⟨y.toNat,by omega⟩
      have hYd:Y<d.length:=by have:=HLEN.out;omega
      have hYI:Y<I:=by omega
      obtain⟨D,hD⟩:∃D,D=d[Y]'hYd:=⟨_,rfl⟩
      have hDle:D≤Y+1:=by rw[hD];exact HDEEP.out Y hYd
      have HNX:=hid (show mx d (t.kids.take (J+1))=max M D by
       rw[HTK.out,HM.out,hD]
       simp[hYd])
      have G:∃g,av=some ⟨g,0,none⟩∧wr.cell? ⟨g,Y,none⟩=some (.int .i64 (D:Int)):=by
       rcases HOWN.blk with ⟨_,h⟩|⟨g,c,hv,_,h⟩
       ·have h':d.length=0:=by rw[←ints_len,h];rfl
        omega
       ·injection hv with hv1 _ _
        refine⟨g,hv1, ?_⟩
        have:=h.at Y (by rw[ints_len];exact hYd)
        rw[ints_get hYd,←hD]at this
        exact this
      obtain⟨g,rfl,c9⟩:=G
      have ab:(Y:Int)<(I:Int):=by omega
      have ac:(0:Int)≤(Y:Int):=by omega
      have P:(J:Int)<(t.kids.length:Int):=by omega
      have X:(0:Int)≤(J:Int):=by omega
      have hcomm:(1:Int)+(D:Int)=(D:Int)+1:=by omega
      clear hy hkc hmem hD hYd HOWN
      go_wp2
      go_round
      case rel=>
       refine⟨J+1,by omega,congrArg (Value.int .i64) ?_,by go_num⟩
       rw[HNX.out,Nat.max_def]
       split<;>split<;>omega
      case measure=>simp[intOf];omega
     ·have HNEW:=hid (show dF (l.drop (I+1)) (d++[M+1])=dF l [] by
       rw[←HST.out,j.out,HM.out,List.take_of_length_le (by omega)])
      have HDN:=hid (show Deep (d++[M+1]) by rw[HM.out];exact HDEEP.snoc _)
      have O:(ints d).length≤1048576:=by rw[ints_len,HLEN.out];omega
      have HBS:=hid HB.size
      have P:¬(J:Int)<(t.kids.length:Int):=by omega
      go_wp2_with (refine wpList_append_int _ ((M:Int)+1) rfl _ _ rfl w.heap.size _ (ints d) rfl V.out rfl O HBS.out ?_;intro v' w3 K b3 aa)
      go_roundw
      case rel=>exact⟨I+1,d++[M+1],by have:=HLN.out;omega,by rw[ints_snoc];exact K,by go_num,by simp[HLEN.out],HDN.out,HNEW.out,HB.trans b3⟩
      case measure=>simp[intOf];omega
   ·obtain rfl:I=n+1:=by omega
    have hnd:n<d.length:=by omega
    obtain⟨D,hD⟩:∃D,D=d[n]'hnd:=⟨_,rfl⟩
    have HR:=hid (show depthF l=D by
     have h1:=HST.out
     rw[show l.drop (n+1)=[] by rw[←HLN.out,List.drop_length]]at h1
     rw[HE.out,←h1,HLN.out,hD]
     simp[dF,hnd])
    obtain⟨b,o,rfl,hb,hcell⟩:=ints_at HOWN.ints (I:=n) (by rw[ints_len];exact hnd)
    have c9:=hcell n (by rw[ints_len];exact hnd)
    rw[ints_get hnd,←hD]at c9
    have i1:(n:Int)<(n:Int)+1:=by omega
    have i0:(0:Int)≤(n:Int):=by omega
    rw[ints_len,hlen]
    clear hcell hD
    go_wp2
    go_ret
    exact⟨by rw[HR.out];rfl,HB.out⟩
theorem IBlk.set{w:World}{g n:Nat}{l:List Int}(h:IBlk w g n l)(i:Nat)(v:Int):IBlk (w.setCell ⟨g,i,none⟩ (.int .i64 v)) g n (l.set i v):=by
 obtain⟨c,hc,hs,hl,hx⟩:=h
 refine⟨c.setIfInBounds i (.int .i64 v),heap_setCell_same _ g _ _ _ _ hc,by simpa using hs,by simpa using hl,fun j hj=> ?_⟩
 simp at hj
 rw[Array.getElem?_setIfInBounds,List.getElem_set]
 by_cases he:i=j
 ·subst he
  rw[if_pos rfl,if_pos rfl,if_pos (by omega)]
 ·rw[if_neg he,if_neg he]
  exact hx j hj
theorem IBlk.zeros(w:World)(n:Nat):IBlk (w.alloc (.cells (madeCells #[.int .i64 0] n) 3)) w.heap.size n (List.replicate n 0):=by
 refine⟨_,heap_alloc_new w _,by simp[madeCells],by simp,fun i hi=> ?_⟩
 simp at hi
 simp[madeCells,hi,Nat.mod_one]
def pad(d:List Nat)(n:Nat):List Int:=ints d++List.replicate (n-d.length) 0
theorem pad_len{d:List Nat}{n:Nat}(h:d.length≤n):(pad d n).length=n:=by simp[pad,ints];omega
theorem pad_get{d:List Nat}{n Y:Nat}(h:Y<d.length)(hn:d.length≤n):(pad d n)[Y]'(by rw[pad_len hn];omega)=(d[Y]:Int):=by
 unfold pad
 rw[List.getElem_append_left (by rw[ints_len];exact h),ints_get h]
theorem pad_nil(n:Nat):pad [] n=List.replicate n 0:=by simp[pad,ints]
theorem pad_zero{d:List Nat}{n:Nat}(h:d.length<n):pad d n=pad (d++[0]) n:=by
 unfold pad
 rw[ints_snoc,show n-d.length=(n-(d++[0]).length)+1 by simp;omega,List.replicate_succ,List.append_assoc]
 rfl
theorem pad_put{d:List Nat}{n:Nat}(m v:Nat):(pad (d++[m]) n).set d.length (v:Int)=pad (d++[v]) n:=by
 unfold pad
 rw[ints_snoc,ints_snoc,List.append_assoc,List.append_assoc,List.set_append_right _ _ (by rw[ints_len];exact Nat.le_refl _),ints_len,Nat.sub_self]
 simp
def RelDi(B g n:Nat)(W:World)(l:List Nd)(i:Value)(wr:World):Prop:=
 ∃(I:Nat) (d:List Nat),I≤n∧IBlk wr g n (pad d n)∧i= .int .i64 (I:Int)∧d.length=I∧Deep d∧dF (l.drop I) d=dF l []∧Below B W wr
def RelDj(B g n:Nat)(W:World)(d:List Nat)(kids:List Int)(k:Value)(wr:World):Prop:=
 ∃J:Nat,J≤kids.length∧IBlk wr g n (pad (d++[mx d (kids.take J)]) n)∧k= .int .i64 (J:Int)∧Below B W wr
set_option maxRecDepth 20000 in
set_option maxHeartbeats 3200000 in
theorem impl_depth(l:List Nd)(a:Option Addr)(cap:Nat)(w:World)(hn:l.length≤1048576)(hk:∀t∈l,t.kids.length≤1048576)(hc:Lies w.heap.size w a l):
  Calls Tryz.prog 86 #[.slice a l.length cap] w fun e w'=>e= .returned (.int .i64 (depthF l:Int))∧Below w.heap.size w w':=by
 have HC:=hid hc
 have HK:=hid hk
 clear hc hk
 cases hs:shape l
 ·have HE:=hid (show(depthF l:Int)=0 by unfold depthF;rw[hs];rfl)
  have HS:=hid hs
  clear hs
  go_enter Tryz.func86,Tryz.ntmps86
  go_wp2_with fail
  refine(impl_shape l a cap _ hn HK.out HC.out).mono ?_
  rintro e w2 ⟨he,b2⟩
  rw[HS.out]at he
  subst he
  go_wp2
  go_ret
  exact⟨by rw[HE.out];rfl,b2⟩
 ·have HE:=hid (show depthF l=(dF l []).getD (l.length-1) 0 by unfold depthF;rw[if_pos hs])
  have HS:=hid hs
  have HAT:=hid (fun i (hi:i<l.length)=>(shape_at hs hi).2)
  obtain⟨n,hln⟩:∃n,l.length=n+1:=⟨l.length-1,by have:=(shape_yes hs).1;omega⟩
  have HLN:=hid hln
  clear hs
  have HX:=hid (impl_shape l a cap w hn HK.out HC.out)
  rw[hln]at hn HX⊢
  clear hln
  have hmk:∀w:World,(Instr.makeSlice 55 (.int .i64 ((n:Int)+1)) (.int .i64 ((n:Int)+1))).run Tryz.prog w= .ok (.slice (some ⟨w.heap.size,0,none⟩) (n+1) (n+1)) (w.alloc (.cells (madeCells #[.int .i64 0] (n+1)) 3)):=fun w=>by
   have:=make_ints (n+1) hn w
   rwa [show((n+1:Nat):Int)=(n:Int)+1 by omega]at this
  go_enter Tryz.func86,Tryz.ntmps86
  go_wp2_with fail
  refine HX.mono ?_
  rintro e w2 ⟨he,b2⟩
  rw[HS.out]at he
  subst he
  have P:=hid b2
  have K:=hid (IBlk.zeros w2 (n+1))
  have hgw:w.heap.size≤w2.heap.size:=b2.size
  have HGW:=hid hgw
  clear b2 hgw
  go_wp2
  obtain⟨g,hg⟩:∃g,g=w2.heap.size:=⟨_,rfl⟩
  rw[←hg]at K HGW⊢
  have HGG:=hid hg
  clear hg
  go_loopw [16] (fun i wr=>RelDi w.heap.size g (n+1) w l i wr) (fun i _=>n+1-(intOf i).toNat)
  case atStart=>exact⟨0,[],by omega,by rw[pad_nil];exact K.out,rfl,rfl,Deep.nil,by simp,P.alloc P.size _⟩
  case round=>
   obtain⟨I,d,hI,hblk,rfl,hlen,hdeep,hst,hbel⟩:=hrel
   have HBLK:=hid hblk
   have HDEEP:=hid hdeep
   have HST:=hid hst
   have HB:=hid hbel
   have HLEN:=hid hlen
   clear hdeep hst hbel hblk hlen
   by_cases hlt:I<n+1
   ·have hltl:I<l.length:=by have:=HLN.out;omega
    obtain⟨b,o,rfl,hb,hcell⟩:=lies_at HC.out hltl
    obtain⟨ak,ck,h5,hik⟩:=hcell I hltl
    obtain⟨c0,c1,c2,c3,c4⟩:=h5.keep HB.out hb
    clear h5
    have F:=hid (dF_step hltl d)
    have HKK:=hid (HK.out l[I] (List.getElem_mem hltl))
    have HKM:=hid (HAT.out I hltl)
    obtain⟨t,ht⟩:∃t,t=l[I]:=⟨_,rfl⟩
    rw[←ht]at c0 c1 c2 c3 c4 hik F HKK HKM
    have HIK:=hid hik
    have hkl:=HKK.out
    have V:(I:Int)<(n:Int)+1:=by omega
    have ab:(0:Int)≤(I:Int):=by omega
    have j:=(Below.refl wr.heap.size wr).alloc (Nat.le_refl _) (.cells #[.int .i64 t.k,.int .i64 t.op,.string t.s,.string t.t,.slice ak t.kids.length ck] 57)
    have O:=hid (HB.trans (j.mono HB.size))
    have G:=hid (show IBlk (wr.alloc (.cells #[.int .i64 t.k,.int .i64 t.op,.string t.s,.string t.t,.slice ak t.kids.length ck] 57)) g (n+1) (pad (d++[mx d (t.kids.take 0)]) (n+1)) by
     have:=HBLK.keep j HBLK.lt
     rwa [pad_zero (by have:=HLEN.out;omega)]at this)
    clear ht hcell hik j
    obtain⟨wo,hwo⟩:∃wo,wo=wr:=⟨_,rfl⟩
    rw[←hwo]at c0 c1 c2 c3 c4 HB HBLK O G⊢
    clear hwo
    go_wp2
    go_loopw [24] (fun k wr=>RelDj w.heap.size g (n+1) w d t.kids k wr) (fun k _=>t.kids.length-(intOf k).toNat)
    case atStart=>exact⟨0,by omega,G.out,rfl,O.out⟩
    case round=>
     obtain⟨J,hJ,hjb,rfl,hjbel⟩:=hrel
     have hml:=mx_le HDEEP.out (t.kids.take J)
     rw[HLEN.out]at hml
     obtain⟨M,hM⟩:∃M,M=mx d (t.kids.take J):=⟨_,rfl⟩
     have HM:=hid hM
     rw[←hM]at hml hjb
     have HJB:=hid hjb
     have HJ:=hid hjbel
     have hpl:(pad (d++[M]) (n+1)).length=n+1:=pad_len (by have:=HLEN.out;simp;omega)
     have cI:=hjb.at I (by rw[hpl];exact hlt)
     rw[pad_get (d:=d++[M]) (by have:=HLEN.out;simp;omega) (by have:=HLEN.out;simp;omega),List.getElem_append_right (by have:=HLEN.out;omega)]at cI
     simp only[HLEN.out,Nat.sub_self,List.getElem_cons_zero]at cI
     have fI:=hjb.frozen I
     clear hM hjb hjbel
     by_cases hjt:J<t.kids.length
     ·obtain⟨bk,ok,rfl,hbk,hkc⟩:=ints_at (HIK.keep HJ.out (Nat.le_refl _)) hjt
      have d0:=hkc J hjt
      have HTK:=hid (mx_step d hjt)
      have hmem:=HKM.out _ (List.getElem_mem hjt)
      obtain⟨y,hy⟩:∃y,y=t.kids[J]:=⟨_,rfl⟩
      rw[←hy]at d0 HTK hmem
      obtain⟨Y,rfl⟩:∃Y:Nat,y=(Y:Int):=⟨y.toNat,by omega⟩
      have hYd:Y<d.length:=by have:=HLEN.out;omega
      have hYI:Y<I:=by omega
      obtain⟨D,hD⟩:∃D,D=d[Y]'hYd:=⟨_,rfl⟩
      have hDle:D≤Y+1:=by rw[hD];exact HDEEP.out Y hYd
      have HNX:=hid (show mx d (t.kids.take (J+1))=max M D by
       rw[HTK.out,HM.out,hD]
       simp[hYd])
      have cY:=HJB.at Y (by rw[hpl];omega)
      rw[pad_get (d:=d++[M]) (by simp;omega) (by have:=HLEN.out;simp;omega),List.getElem_append_left hYd,←hD]at cY
      have Z:(Y:Int)<(n:Int)+1:=by omega
      have aa:(0:Int)≤(Y:Int):=by omega
      have S:(J:Int)<(t.kids.length:Int):=by omega
      have X:(0:Int)≤(J:Int):=by omega
      clear hy hkc hmem hD hYd hpl
      go_wp2
      go_region
      go_wp2
      go_roundw
      case rel=>
       have hv:(if M<D then(D:Int)else(M:Int))=((max M D:Nat):Int):=by rw[Nat.max_def];split<;>split<;>omega
       rw[hv]
       have hset:=HJB.set I ((max M D:Nat):Int)
       rw[←HLEN.out,pad_put,HLEN.out]at hset
       exact⟨J+1,by omega,by rw[HNX.out];exact hset.of_block rfl,by go_num,(HJ.setCell (p:=⟨g,I,none⟩) HGW.out _).drew⟩
      case measure=>simp[intOf];omega
     ·have HNEW:=hid (show dF (l.drop (I+1)) (d++[M+1])=dF l [] by
       rw[←HST.out,F.out,HM.out,List.take_of_length_le (by omega)])
      have HDN:=hid (show Deep (d++[M+1]) by rw[HM.out];exact HDEEP.snoc _)
      have S:¬(J:Int)<(t.kids.length:Int):=by omega
      clear hpl
      go_wp2
      go_roundw
      case rel=>
       have hset:=HJB.set I ((M:Int)+1)
       rw[←HLEN.out,show((M:Int)+1)=((M+1:Nat):Int) by omega,pad_put,HLEN.out]at hset
       exact⟨I+1,d++[M+1],by omega,hset,by go_num,by simp[HLEN.out],HDN.out,HNEW.out,HJ.setCell (p:=⟨g,I,none⟩) HGW.out _⟩
      case measure=>simp[intOf];omega
   ·obtain rfl:I=n+1:=by omega
    have hnd:n<d.length:=by have:=HLEN.out;omega
    obtain⟨D,hD⟩:∃D,D=d[n]'hnd:=⟨_,rfl⟩
    have HR:=hid (show depthF l=D by
     have h1:=HST.out
     rw[show l.drop (n+1)=[] by rw[←HLN.out,List.drop_length]]at h1
     rw[HE.out,←h1,HLN.out,hD]
     simp[dF,hnd])
    have c9:=HBLK.at n (by rw[pad_len (by have:=HLEN.out;omega)];omega)
    rw[pad_get hnd (by have:=HLEN.out;omega),←hD]at c9
    have i1:(n:Int)<(n:Int)+1:=by omega
    have i0:(0:Int)≤(n:Int):=by omega
    clear hD
    go_wp2
    go_ret
    exact⟨by rw[HR.out];rfl,HB.out⟩
end Go.Proofs.YtnoagleifffkcaaGreatDoor.nd
