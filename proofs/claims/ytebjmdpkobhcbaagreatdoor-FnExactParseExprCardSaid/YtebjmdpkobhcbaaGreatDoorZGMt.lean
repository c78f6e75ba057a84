/- A part of the proof; no condition of its own. -/
import Derived.Test.YtebjmdpkobhcbaaGreatDoorRows
import Derived.Test.YtebjmdpkobhcbaaGreatDoorZBase
import Derived.WalkKit
import Derived.Laws.IdiomStrings
import Derived.Laws.OwnMore
import Derived.Test.YtebjmdpkobhcbaaGreatDoorZGNd
import Derived.Lib.Strings
import Derived.Test.YtebjmdpkobhcbaaGreatDoorZNdEq
import Derived.Test.YtebjmdpkobhcbaaGreatDoorZGOw
namespace Go.Proofs.YtebjmdpkobhcbaaGreatDoor
open Go.RowKit
set_option maxRecDepth 20000
def cellsOf(l:List UInt8):List Value:=l.map (fun b=>Value.int .u8 (b.toNat:Int))
theorem conv_own(w:World)(base:Nat)(v:Value)(n:Nat)(l:List UInt8)(hn:n=l.length)(h:w.ownsRow base 5 1 v n (cellsOf l)):
  (convert 22 9 v).run Tryz.prog w= .ok (.string ⟨l.toArray⟩) w:=by
 subst hn
 rcases h.2 with ⟨rfl,hl⟩|⟨g,cap,cur,rfl,hb,hg,hnc,hcm,hcs,htake⟩
 ·obtain rfl:l=[]:=List.length_eq_zero_iff.1 hl
  rw[run_convert_bytes_string w 22 9 5 none 0 0 Tryz.underlying22 Tryz.underlying5 Tryz.underlying9]
  rfl
 ·refine run_convert_bytes_back w 22 9 5 ⟨g,0,none⟩ cap l Tryz.underlying22 Tryz.underlying5 Tryz.underlying9 ?_
  intro j hj
  have:=World.ownsRow.cellAt h j (by simpa using hj)
  have e:(⟨g,0,none⟩:Addr).add j=⟨g,j,none⟩:=by
   simp only[Addr.add,Nat.zero_add]
   split
   ·next h0=>subst h0;rfl
   ·rfl
  rw[e,this]
  simp[cellsOf,hj]
theorem conv_one(w:World)(x:Int)(h0:0≤x)(h1:x<256):
  (convert 22 9 (.slice (some ⟨w.heap.size,0,none⟩) 1 1)).run Tryz.prog (w.alloc (.cells #[.int .u8 x] 5))= .ok (.string ⟨#[UInt8.ofNat x.toNat]⟩) (w.alloc (.cells #[.int .u8 x] 5)):=by
 refine conv_own _ 0 _ 1 [UInt8.ofNat x.toNat] rfl ?_
 have:=World.ownsRow_lit (base:=0) (e:=5) (size:=1) w #[.int .u8 x] 1 (by omega) (by unfold maxLen;omega) rfl
 have e:cellsOf [UInt8.ofNat x.toNat]=[.int .u8 x]:=by
  simp[cellsOf]
  omega
 rw[e]
 exact this
end Go.Proofs.YtebjmdpkobhcbaaGreatDoor

namespace Go.Proofs.YtebjmdpkobhcbaaGreatDoor.mark
open Lib (hid)
open Go.ChangeShapes Go.WideShapes Go.ChangeAt Go.RowKit
open nd
set_option linter.unusedVariables false
def markGo(k:Nat)(out:ByteArray):ByteArray:=if h:k=0 then out else markGo (k/10) (⟨#[UInt8.ofNat (48+k%10)]⟩++out)
termination_by k
decreasing_by omega
def markF(k:Nat):ByteArray:=if k=0 then⟨#[109,48]⟩else⟨#[109]⟩++markGo k ⟨#[]⟩
theorem go_step{k:Nat}{out:ByteArray}(h:¬k=0):markGo k out=markGo (k/10) (⟨#[UInt8.ofNat (48+k%10)]⟩++out):=by rw[markGo,dif_neg h]
theorem go_end(out:ByteArray):markGo 0 out=out:=by rw[markGo,dif_pos rfl]
def dgt(x:Int):UInt8:=UInt8.ofNat x.toNat
theorem dgt_nat(K:Nat):dgt (48+(K:Int)%10)=UInt8.ofNat (48+K%10):=by unfold dgt;congr 1
theorem conv_dgt(w:World)(x:Int)(h0:0≤x)(h1:x<256):
  (convert 22 9 (.slice (some ⟨w.heap.size,0,none⟩) 1 1)).run Tryz.prog (w.alloc (.cells #[.int .u8 x] 5))= .ok (.string ⟨#[dgt x]⟩) (w.alloc (.cells #[.int .u8 x] 5)):=conv_one w x h0 h1
def RelM(W:World)(k0:Nat)(k out:Value)(wr:World):Prop:=
 ∃(K:Nat) (o:ByteArray),k= .int .i64 (K:Int)∧out= .string o∧markGo K o=markGo k0 ⟨#[]⟩∧o.size+K≤k0∧Below W.heap.size W wr
set_option maxRecDepth 20000 in
theorem mark_text(k:Nat)(w:World)(hk0:0<k)(hk:k≤100000000):
  Calls Tryz.prog 68 #[.int .i64 (k:Int)] w fun e w'=>e= .returned (.string (markF k))∧Below w.heap.size w w':=by
 have HM:=hid (show markF k=⟨#[109]⟩++markGo k ⟨#[]⟩ by unfold markF;rw[if_neg (by omega)])
 go_enter Tryz.func68,Tryz.ntmps68
 go_wp2
 go_loopw [0,3] (fun v o wr=>RelM w k v o wr) (fun v _ _=>(intOf v).toNat)
 case atStart=>exact⟨k,⟨#[]⟩,rfl,rfl,rfl,by show 0+k≤k;omega,Below.refl _ _⟩
 case round=>
  obtain⟨K,o,rfl,rfl,hgo,hsz,hbel⟩:=hrel
  have HGO:=hid hgo
  have HBEL:=hid hbel
  clear hgo hbel
  by_cases h0:K=0
  ·subst h0
   have HE:=hid (HGO.symm.trans (go_end o))
   have ka:=fun w=>run_string_add_sum (P:=Tryz.prog) (w:=w) ⟨#[109]⟩ o (by show 1+o.size≤_;omega)
   go_wp2
   go_ret
   exact⟨by rw[HM.out,HE.out];rfl,HBEL.out⟩
  ·have y:(0:Int)<(K:Int):=by omega
   have A:K≤100000000:=by omega
   have h:o.size≤100000000:=by omega
   have HSZ:=hid hsz
   have HKK:=hid hk
   clear hsz hk
   have HG:=hid ((go_step (out:=o) h0).symm.trans HGO.out)
   have kc:=conv_dgt wr (48+(K:Int)%10) (by omega) (by omega)
   have HC:=hid (dgt_nat K)
   have ka:=fun w=>run_string_add_sum (P:=Tryz.prog) (w:=w) ⟨#[dgt (48+(K:Int)%10)]⟩ o (by show 1+o.size≤_;omega)
   clear h0
   go_wp2
   go_roundw
   case rel=>exact⟨K/10,_,by go_num,rfl,by rw[HC.out];exact HG.out,by rw[ByteArray.size_append];show 1+o.size+K/10≤k;have:=HSZ.out;omega,HBEL.alloc HBEL.size _⟩
   case measure=>simp[intOf];omega
theorem mark_text1(P:Nat)(w:World)(hk:P+1≤100000000):
  Calls Tryz.prog 68 #[.int .i64 ((P:Int)+1)] w fun e w'=>e= .returned (.string (markF (P+1)))∧Below w.heap.size w w':=by
 have:=mark_text (P+1) w (by omega) hk
 rwa [show((P+1:Nat):Int)=(P:Int)+1 by omega]at this
end Go.Proofs.YtebjmdpkobhcbaaGreatDoor.mark

namespace Go.Proofs.YtebjmdpkobhcbaaGreatDoor.mark
open Lib (hid)
open Go.ChangeShapes Go.WideShapes Go.ChangeAt Go.RowKit
open nd
set_option linter.unusedVariables false
set_option maxRecDepth 20000
def mkI(P m:Nat):List Int:=(List.range m).map (fun j=>((P+j:Nat):Int))
theorem mkI_len(P m:Nat):(mkI P m).length=m:=by simp[mkI]
theorem mkI_get{P m j:Nat}(h:j<m):(mkI P m)[j]'(by rw[mkI_len];exact h)=((P+j:Nat):Int):=by simp[mkI]
theorem mkI_succ(P m:Nat):mkI P (m+1)=mkI P m++[((P+m:Nat):Int)]:=by simp[mkI,List.range_succ]
def mkN(P m:Nat):Nd:=⟨(P:Int),((P+1:Nat):Int),markF (P+2),markF (P+3),mkI (P+4) m⟩
def mkL:List Nat→Nat→List Nd
 |[],_=>[]
 |m::ms,P=>mkN P m::mkL ms (P+4+m)
def endM:List Nat→Nat→Nat
 |[],P=>P
 |m::ms,P=>endM ms (P+4+m)
theorem endM_eq:∀(ms:List Nat) (P:Nat),endM ms P=P+4*ms.length+ms.sum:=by
 intro ms
 induction ms with
 |nil=>intro P;simp[endM]
 |cons m ms ih=>intro P;rw[endM,ih];simp;omega
theorem endM_snoc:∀(ms:List Nat) (m P:Nat),endM (ms++[m]) P=endM ms P+4+m:=by
 intro ms m P
 rw[endM_eq,endM_eq];simp;omega
theorem mkL_snoc:∀(ms:List Nat) (m P:Nat),mkL (ms++[m]) P=mkL ms P++[mkN (endM ms P) m]:=by
 intro ms
 induction ms with
 |nil=>intro m P;rfl
 |cons x ms ih=>intro m P;simp only[List.cons_append,mkL,endM,ih]
theorem mkL_len:∀(ms:List Nat) (P:Nat),(mkL ms P).length=ms.length:=by
 intro ms
 induction ms with
 |nil=>intro P;rfl
 |cons x ms ih=>intro P;simp[mkL,ih]
def lens(l:List Nd):List Nat:=l.map (fun n=>n.kids.length)
theorem lens_step{l:List Nd}{I:Nat}(h:I<l.length):lens (l.take (I+1))=lens (l.take I)++[l[I].kids.length]:=by
 unfold lens
 rw[List.take_succ_eq_append_getElem h,List.map_append]
 rfl
theorem grown_set{w w1:World}{p j:Nat}(u:Value)(h:w.grownBy w1 (some p)):w.grownBy (w1.setCell ⟨p,j,none⟩ u) (some p):=
 ⟨h.os,h.tape,h.output,by simp;exact h.size,fun k hk hne=>by
  rw[heap_setCell_other w1 ⟨p,j,none⟩ k u (fun e=>hne (by rw[e]))]
  exact h.block k hk hne⟩
def RelMi(W:World)(g cap P n:Nat)(k i:Value)(wr:World):Prop:=
 ∃I:Nat,I≤n∧i= .int .i64 (I:Int)∧k= .int .i64 ((P+I:Nat):Int)∧IBlk wr g cap (mkI P I)∧W.grownBy wr (some g)
set_option maxHeartbeats 1600000 in
theorem mark_ints(g cap n P:Nat)(l:List Int)(w:World)(hb:IBlk w g cap l)(hn:n≤cap)(hn2:n≤1048576)(hP:P≤6000010):
  Calls Tryz.prog 69 #[.slice (some ⟨g,0,none⟩) n cap,.int .i64 (P:Int)] w fun e w'=>e= .returned (.int .i64 ((P+n:Nat):Int))∧IBlk w' g cap (mkI P n)∧w.grownBy w' (some g):=by
 have y:=hid (show IBlk w g cap (mkI P 0) by
  obtain⟨c,hc,hs,-,-⟩:=hb
  exact⟨c,hc,hs,by simp[mkI],fun i hi=>by simp[mkI]at hi⟩)
 clear hb
 go_enter Tryz.func69,Tryz.ntmps69
 go_wp2
 go_loopw [1,5] (fun k i wr=>RelMi w g cap P n k i wr) (fun _ i _=>n-(intOf i).toNat)
 case atStart=>exact⟨0,by omega,rfl,by simp,y.out,World.grownBy.refl w _⟩
 case round=>
  obtain⟨I,hI,rfl,rfl,hblk,hgr⟩:=hrel
  have HK:=hid hblk
  have HG:=hid hgr
  clear hblk hgr
  obtain⟨Q,hQ⟩:∃Q,Q=P+I:=⟨_,rfl⟩
  rw[←hQ]
  have HQ:=hid hQ
  have hQb:Q≤8000000:=by omega
  clear hQ
  by_cases hlt:I<n
  ·have A:(I:Int)<(n:Int):=by omega
   obtain⟨v0,e0⟩:=HK.some I (by omega)
   have f0:=HK.frozen I
   have h:=hid (show IBlk (wr.setCell ⟨g,I,none⟩ (.int .i64 (Q:Int))) g cap (mkI P (I+1)) by
    have:=HK.put (Q:Int) (by rw[mkI_len];omega)
    rw[mkI_len]at this
    rw[mkI_succ,←HQ.out]
    exact this)
   have o:=hid (grown_set (j:=I) (.int .i64 (Q:Int)) HG.out)
   go_wp2
   go_roundw
   case rel=>exact⟨I+1,by omega,by go_num,congrArg (Value.int .i64) (by have:=HQ.out;omega),h.out,o.out⟩
   case measure=>simp[intOf];omega
  ·obtain rfl:I=n:=by omega
   go_wp2
   go_ret
   exact⟨by rw[←HQ.out];rfl,HK.out,HG.out⟩
theorem mark_ints0(a:Option Addr)(cap:Nat)(k:Int)(w:World):
  Calls Tryz.prog 69 #[.slice a 0 cap,.int .i64 k] w fun e w'=>e= .returned (.int .i64 k)∧w=w':=by
 go_enter Tryz.func69,Tryz.ntmps69
 go_wp2
 go_loop [1,5] (fun k' i=>k'= .int .i64 k∧i= .int .i64 0) (fun _ _=>0)
 case atStart=>exact⟨rfl,rfl⟩
 case round=>
  obtain⟨rfl,rfl⟩:=hrel
  go_wp2
  go_ret
  exact⟨rfl,rfl⟩
theorem tr_row{B:Nat}{w:World}{g n:Nat}{l:List Nd}{r:Nat→Nat}(h:Tr B w g n l r){I:Nat}(hI:I<l.length):∃a cap,w.cell? ⟨g,I*5+4,none⟩=some (.slice a l[I].kids.length cap)∧(l[I].kids=[]∨a=some ⟨r I,0,none⟩∧IBlk w (r I) cap l[I].kids∧B≤r I∧r I≠g):=by
 obtain⟨⟨c,hc,hs,hl,hx⟩,-⟩:=h
 obtain⟨v,⟨_,_,_,_,h4⟩,a,cap,rfl,hk⟩:=hx I hI
 exact⟨a,cap,by rw[cell_of_row w g _ _ _ _ hc];exact h4,hk⟩
theorem tr_setF{B:Nat}{w:World}{g n:Nat}{l:List Nd}{r:Nat→Nat}(h:Tr B w g n l r){I:Nat}(hI:I<l.length)(j:Nat)(u:Value)(x':Nd)(hj:j<5)(hk:x'.kids=l[I].kids)
  (hcc:∀c v,C5 c I l[I] v→I*5+5≤c.size→C5 (c.setIfInBounds (I*5+j) u) I x' v):Tr B (w.setCell ⟨g,I*5+j,none⟩ u) g n (l.set I x') r:=by
 obtain⟨⟨c,hc,hs,hl,hx⟩,ha,hr⟩:=h
 have keepk:∀{r':Nat} {q:Value} {m:List Int},Kid B w g r' q m→Kid B (w.setCell ⟨g,I*5+j,none⟩ u) g r' q m:=by
  rintro r' q m ⟨a,cap,e,h⟩
  refine⟨a,cap,e,h.imp id ?_⟩
  rintro⟨e1,e2,e3,e4⟩
  exact⟨e1,e2.of_block (heap_setCell_other _ _ _ _ e4),e3,e4⟩
 refine⟨⟨_,heap_setCell_same _ g _ _ _ _ hc,by simpa using hs,by simpa using hl,fun i hi=> ?_⟩,fun i j' hij hj'=>ha i j' hij (by simpa using hj'),fun i hi=>by rw[show(w.setCell ⟨g,I*5+j,none⟩ u).heap.size=w.heap.size by simp];exact hr i (by simpa using hi)⟩
 simp at hi
 obtain⟨v,h5,hk'⟩:=hx i hi
 by_cases he:I=i
 ·subst he
  simp only[List.getElem_set_self]
  exact⟨v,hcc c v h5 (by omega),by rw[hk];exact keepk hk'⟩
 ·simp only[List.getElem_set_ne he]
  refine⟨v, ?_,keepk hk'⟩
  obtain⟨h0,h1,h2,h3,h4⟩:=h5
  unfold C5
  simp only[Array.getElem?_setIfInBounds]
  exact⟨by rw[if_neg (by omega)];exact h0,by rw[if_neg (by omega)];exact h1,by rw[if_neg (by omega)];exact h2,by rw[if_neg (by omega)];exact h3,by rw[if_neg (by omega)];exact h4⟩
theorem tr_setK{B:Nat}{w:World}{g n:Nat}{l:List Nd}{r:Nat→Nat}(h:Tr B w g n l r){I:Nat}(hI:I<l.length)(P:Int):Tr B (w.setCell ⟨g,I*5,none⟩ (.int .i64 P)) g n (l.set I {l[I]with k:=P}) r:=
 tr_setF h hI 0 (.int .i64 P) {l[I]with k:=P} (by omega) rfl (fun c v h5 hs=>by
  obtain⟨h0,h1,h2,h3,h4⟩:=h5
  unfold C5
  simp only[Array.getElem?_setIfInBounds]
  exact⟨by rw[if_pos (by first|trivial|omega),if_pos (by first|trivial|omega)],by rw[if_neg (by omega)];exact h1,by rw[if_neg (by omega)];exact h2,by rw[if_neg (by omega)];exact h3,by rw[if_neg (by omega)];exact h4⟩)
theorem tr_setO{B:Nat}{w:World}{g n:Nat}{l:List Nd}{r:Nat→Nat}(h:Tr B w g n l r){I:Nat}(hI:I<l.length)(P:Int):Tr B (w.setCell ⟨g,I*5+1,none⟩ (.int .i64 P)) g n (l.set I {l[I]with op:=P}) r:=
 tr_setF h hI 1 (.int .i64 P) {l[I]with op:=P} (by omega) rfl (fun c v h5 hs=>by
  obtain⟨h0,h1,h2,h3,h4⟩:=h5
  unfold C5
  simp only[Array.getElem?_setIfInBounds]
  exact⟨by rw[if_neg (by omega)];exact h0,by rw[if_pos (by first|trivial|omega),if_pos (by first|trivial|omega)],by rw[if_neg (by omega)];exact h2,by rw[if_neg (by omega)];exact h3,by rw[if_neg (by omega)];exact h4⟩)
theorem tr_setS{B:Nat}{w:World}{g n:Nat}{l:List Nd}{r:Nat→Nat}(h:Tr B w g n l r){I:Nat}(hI:I<l.length)(s:ByteArray):Tr B (w.setCell ⟨g,I*5+2,none⟩ (.string s)) g n (l.set I {l[I]with s:=s}) r:=
 tr_setF h hI 2 (.string s) {l[I]with s:=s} (by omega) rfl (fun c v h5 hs=>by
  obtain⟨h0,h1,h2,h3,h4⟩:=h5
  unfold C5
  simp only[Array.getElem?_setIfInBounds]
  exact⟨by rw[if_neg (by omega)];exact h0,by rw[if_neg (by omega)];exact h1,by rw[if_pos (by first|trivial|omega),if_pos (by first|trivial|omega)],by rw[if_neg (by omega)];exact h3,by rw[if_neg (by omega)];exact h4⟩)
theorem tr_setT{B:Nat}{w:World}{g n:Nat}{l:List Nd}{r:Nat→Nat}(h:Tr B w g n l r){I:Nat}(hI:I<l.length)(s:ByteArray):Tr B (w.setCell ⟨g,I*5+3,none⟩ (.string s)) g n (l.set I {l[I]with t:=s}) r:=
 tr_setF h hI 3 (.string s) {l[I]with t:=s} (by omega) rfl (fun c v h5 hs=>by
  obtain⟨h0,h1,h2,h3,h4⟩:=h5
  unfold C5
  simp only[Array.getElem?_setIfInBounds]
  exact⟨by rw[if_neg (by omega)];exact h0,by rw[if_neg (by omega)];exact h1,by rw[if_neg (by omega)];exact h2,by rw[if_pos (by first|trivial|omega),if_pos (by first|trivial|omega)],by rw[if_neg (by omega)];exact h4⟩)
theorem tr_setKids{B:Nat}{w w':World}{g n:Nat}{l:List Nd}{r:Nat→Nat}(h:Tr B w g n l r){I:Nat}(hI:I<l.length)(m:List Int)(hm:m.length=l[I].kids.length){a:Option Addr}{cap:Nat}
  (hcell:w.cell? ⟨g,I*5+4,none⟩=some (.slice a l[I].kids.length cap)) (hne:r I≠g) (hB:B≤r I) (ha:a=some ⟨r I,0,none⟩) (hg:w.grownBy w' (some (r I))) (hb:IBlk w' (r I) cap m):Tr B w' g n (l.set I {l[I]with kids:=m}) r:=by
 have hlt:=h.lt
 obtain⟨⟨c,hc,hs,hl,hx⟩,has,hr⟩:=h
 refine⟨⟨c, ?_,hs,by simpa using hl,fun i hi=> ?_⟩,fun i j' hij hj'=>has i j' hij (by simpa using hj'),fun i hi=>Nat.lt_of_lt_of_le (hr i (by simpa using hi)) hg.size⟩
 ·rw[hg.block g hlt (fun e=>by injection e with e;exact hne e.symm)];exact hc
 simp at hi
 obtain⟨v,h5,hk'⟩:=hx i hi
 by_cases he:I=i
 ·subst he
  simp only[List.getElem_set_self]
  have hv:v= .slice a l[I].kids.length cap:=by
   have h4:=h5.2.2.2.2
   rw[cell_of_row w g _ _ _ _ hc,h4]at hcell
   exact Option.some.inj hcell
  refine⟨v,h5,a,cap,by rw[hv];simp[hm],.inr ⟨ha,hb,hB,hne⟩⟩
 ·simp only[List.getElem_set_ne he]
  obtain⟨a2,c2,e0,o⟩:=hk'
  refine⟨v,h5,a2,c2,e0,o.imp id ?_⟩
  rintro⟨e1,e2,e3,e4⟩
  have hri:r i≠r I:=by
   rcases Nat.lt_or_ge I i with h'|h'
   ·exact(has I i h' hi).symm
   ·exact has i I (by have:I≠i:=he;omega) hI
  refine⟨e1,e2.of_block (hg.block (r i) e2.lt (fun e=>by injection e with e;exact hri e)),e3,e4⟩
end Go.Proofs.YtebjmdpkobhcbaaGreatDoor.mark

namespace Go.Proofs.YtebjmdpkobhcbaaGreatDoor.mark
open Go.ChangeShapes Go.WideShapes Go.ChangeAt Go.RowKit
open nd
set_option linter.unusedVariables false
theorem mark_textN(P:Nat)(w:World)(hk0:0<P)(hk:P≤8000000):
  Calls Tryz.prog 68 #[.int .i64 (P:Int)] w fun e w'=>e= .returned (.string (markF P))∧Below w.heap.size w w':=mark_text P w hk0 (by omega)
def Above(S:Nat)(w w':World):Prop:=∀k,S≤k→k<w.heap.size→w'.heap[k]? =w.heap[k]?
theorem Above.refl(S:Nat)(w:World):Above S w w:=fun k _ _=>rfl
theorem Above.trans{S:Nat}{a b c:World}(h:Above S a b)(k:Above S b c)(hs:a.heap.size≤b.heap.size):Above S a c:=fun j h1 h2=>(k j h1 (Nat.lt_of_lt_of_le h2 hs)).trans (h j h1 h2)
theorem Above.set{S g j:Nat}{w:World}(hg:g<S)(u:Value):Above S w (w.setCell ⟨g,j,none⟩ u):=fun k h1 _=>heap_setCell_other w ⟨g,j,none⟩ k u (by show k≠g;omega)
theorem Above.below{S:Nat}{w w':World}(h:Below w.heap.size w w'):Above S w w':=fun k _ h2=>h.block k h2
theorem Above.grown{S g:Nat}{w w':World}(h:w.grownBy w' (some g))(hg:g<S):Above S w w':=fun k h1 h2=>h.block k h2 (fun e=>by injection e with e;omega)
theorem Tr.above{S:Nat}{w w':World}{g n:Nat}{l:List Nd}{r:Nat→Nat}(h:Tr S w g n l r)(hf:Above S w w')(hs:w.heap.size≤w'.heap.size)(hg:S≤g):Tr S w' g n l r:=by
 have hlt:=Tr.lt h
 obtain⟨⟨c,hc,hsz,hl,hx⟩,ha,hr⟩:=h
 refine⟨⟨c,(hf g hg hlt).trans hc,hsz,hl,fun i hi=> ?_⟩,ha,fun i hi=>Nat.lt_of_lt_of_le (hr i hi) hs⟩
 obtain⟨v,h5,a,cap,e,hk⟩:=hx i hi
 refine⟨v,h5,a,cap,e,hk.imp id ?_⟩
 rintro⟨e1,e2,e3,e4⟩
 exact⟨e1,e2.of_block (hf _ e3 e2.lt),e3,e4⟩
structure MS(B S:Nat)(g cap:Nat)(l:List Nd)(r:Nat→Nat)(W wr:World):Prop where
 tr:Tr B wr g cap l r
 bel:Below B W wr
 abo:Above S W wr
 siz:W.heap.size≤wr.heap.size
variable {B S g cap:Nat} {l:List Nd} {r:Nat→Nat} {W w w':World}
theorem MS.over(h:MS B S g cap l r W w)(hb:Below w.heap.size w w')(hB:B≤w.heap.size):MS B S g cap l r W w':=
 ⟨h.tr.keep hb (Nat.le_refl _),h.bel.trans (hb.mono hB),h.abo.trans (Above.below hb) h.siz,Nat.le_trans h.siz hb.size⟩
theorem MS.set{l':List Nd}(h:MS B S g cap l r W w)(hB:B≤g)(hS:g<S)(j:Nat)(u:Value)(ht:Tr B (w.setCell ⟨g,j,none⟩ u) g cap l' r):MS B S g cap l' r W (w.setCell ⟨g,j,none⟩ u):=
 ⟨ht,h.bel.setCell (p:=⟨g,j,none⟩) hB u,h.abo.trans (Above.set hS u) h.siz,by have:=h.siz;simpa using this⟩
section
variable {l1:List Nd} {I:Nat} {x:Nd} (hB:B≤g) (hS:g<S) (hI:I<l1.length)
include hB hS hI
theorem MS.sK(h:MS B S g cap (l1.set I x) r W w)(P:Int):MS B S g cap (l1.set I {x with k:=P}) r W (w.setCell ⟨g,I*5,none⟩ (.int .i64 P)):=by
 have:=h.set hB hS (I*5) (.int .i64 P) (tr_setK h.tr (I:=I) (by simpa using hI) P)
 simpa only[List.getElem_set_self,List.set_set]using this
theorem MS.sO(h:MS B S g cap (l1.set I x) r W w)(P:Int):MS B S g cap (l1.set I {x with op:=P}) r W (w.setCell ⟨g,I*5+1,none⟩ (.int .i64 P)):=by
 have:=h.set hB hS (I*5+1) (.int .i64 P) (tr_setO h.tr (I:=I) (by simpa using hI) P)
 simpa only[List.getElem_set_self,List.set_set]using this
theorem MS.sS(h:MS B S g cap (l1.set I x) r W w)(s:ByteArray):MS B S g cap (l1.set I {x with s:=s}) r W (w.setCell ⟨g,I*5+2,none⟩ (.string s)):=by
 have:=h.set hB hS (I*5+2) (.string s) (tr_setS h.tr (I:=I) (by simpa using hI) s)
 simpa only[List.getElem_set_self,List.set_set]using this
theorem MS.sT(h:MS B S g cap (l1.set I x) r W w)(s:ByteArray):MS B S g cap (l1.set I {x with t:=s}) r W (w.setCell ⟨g,I*5+3,none⟩ (.string s)):=by
 have:=h.set hB hS (I*5+3) (.string s) (tr_setT h.tr (I:=I) (by simpa using hI) s)
 simpa only[List.getElem_set_self,List.set_set]using this
omit hB hS in
theorem MS.row(h:MS B S g cap (l1.set I x) r W w):∃a c,w.cell? ⟨g,I*5+4,none⟩=some (.slice a x.kids.length c)∧(x.kids=[]∨a=some ⟨r I,0,none⟩∧IBlk w (r I) c x.kids∧B≤r I∧r I≠g):=by
 have:=tr_row h.tr (I:=I) (by simpa using hI)
 simpa only[List.getElem_set_self]using this
omit hB hS in
theorem MS.sKids(h:MS B S g cap (l1.set I x) r W w)(m:List Int)(hm:m.length=x.kids.length){c:Nat}(hcell:w.cell? ⟨g,I*5+4,none⟩=some (.slice (some ⟨r I,0,none⟩) x.kids.length c))(hne:r I≠g)(hBr:B≤r I)(hSr:r I<S)(hBw:B≤w.heap.size)(hg:w.grownBy w' (some (r I)))(hb:IBlk w' (r I) c m):MS B S g cap (l1.set I {x with kids:=m}) r W w':=by
 have:=tr_setKids h.tr (I:=I) (by simpa using hI) m (by simpa using hm) (a:=some ⟨r I,0,none⟩) (cap:=c) (by simpa using hcell) hne hBr rfl hg hb
 simp only[List.getElem_set_self,List.set_set]at this
 exact⟨this,h.bel.grown hg hBw (fun k e=>by cases e;exact hBr),h.abo.trans (Above.grown hg hSr) h.siz,Nat.le_trans h.siz hg.size⟩
end
def RelMn(B S g cap:Nat)(W:World)(l:List Nd)(r:Nat→Nat)(k i:Value)(wr:World):Prop:=
 ∃I:Nat,I≤l.length∧i= .int .i64 (I:Int)∧k= .int .i64 (endM (lens (l.take I)) 1:Int)∧MS B S g cap (mkL (lens (l.take I)) 1++l.drop I) r W wr
end Go.Proofs.YtebjmdpkobhcbaaGreatDoor.mark

namespace Go.Proofs.YtebjmdpkobhcbaaGreatDoor.markt
open Lib (hid)
open mark
open Go.ChangeShapes Go.WideShapes Go.ChangeAt Go.RowKit
open tk own
set_option linter.unusedVariables false
def mk(k0:Nat)(i:Nat):Tk:=⟨((k0+3*i:Nat):Int),markF (k0+3*i+1),((k0+3*i+2:Nat):Int)⟩
def marks(k0 n:Nat):List Tk:=(List.range n).map (mk k0)
theorem marks_len(k0 n:Nat):(marks k0 n).length=n:=by simp[marks]
theorem marks_succ(k0 n:Nat):marks k0 (n+1)=marks k0 n++[mk k0 n]:=by simp[marks,List.range_succ]
theorem blk_pre{w:World}{g n:Nat}{l:List Tk}(h:Blk w g n l)(hl:l.length<n)(v:Value):
  Blk (w.setCell ⟨g,l.length*3,none⟩ v) g n l∧(w.setCell ⟨g,l.length*3,none⟩ v).cell? ⟨g,l.length*3,none⟩=some v:=by
 obtain⟨c,hc,hs,hn,hx⟩:=h
 have hc':=heap_setCell_same w g (l.length*3) _ _ v hc
 refine⟨⟨_,hc',by simpa using hs,hn,fun i hi=> ?_⟩, ?_⟩
 ·obtain⟨x0,x1,x2⟩:=hx i hi
  simp only[Array.getElem?_setIfInBounds]
  exact⟨by rw[if_neg (by omega)];exact x0,by rw[if_neg (by omega)];exact x1,by rw[if_neg (by omega)];exact x2⟩
 ·rw[cell_of_row _ g _ _ _ _ hc',Array.getElem?_setIfInBounds,if_pos rfl,if_pos (by omega)]
theorem blk_post{w:World}{g n:Nat}{l:List Tk}(h:Blk w g n l)(t:Tk)(hl:l.length<n)(h0:w.cell? ⟨g,l.length*3,none⟩=some (.int .i64 t.k)):
  Blk ((w.setCell ⟨g,l.length*3+1,none⟩ (.string t.s)).setCell ⟨g,l.length*3+2,none⟩ (.int .i64 t.a)) g n (l++[t]):=by
 obtain⟨c,hc,hs,hn,hx⟩:=h
 rw[cell_of_row _ g _ _ _ _ hc]at h0
 refine⟨_,heap_setCell_same _ g _ _ _ _ (heap_setCell_same w g (l.length*3+1) _ _ _ hc),by simpa using hs,by simp;omega,fun i hi=> ?_⟩
 simp only[Array.getElem?_setIfInBounds,Array.size_setIfInBounds]
 by_cases he:i<l.length
 ·obtain⟨x0,x1,x2⟩:=hx i he
  rw[List.getElem_append_left he]
  exact⟨by rw[if_neg (by omega),if_neg (by omega)];exact x0,by rw[if_neg (by omega),if_neg (by omega)];exact x1,by rw[if_neg (by omega),if_neg (by omega)];exact x2⟩
 ·simp at hi
  obtain rfl:i=l.length:=by omega
  rw[List.getElem_append_right (Nat.le_refl _)]
  simp only[Nat.sub_self,List.getElem_cons_zero]
  exact⟨by rw[if_neg (by omega),if_neg (by omega)];exact h0,by rw[if_neg (by omega),if_pos trivial,if_pos (by omega)],by rw[if_pos trivial,if_pos (by omega)]⟩
theorem grown_set{w w1:World}{p j:Nat}(u:Value)(h:w.grownBy w1 (some p)):w.grownBy (w1.setCell ⟨p,j,none⟩ u) (some p):=
 ⟨h.os,h.tape,h.output,by simp;exact h.size,fun k hk hne=>by
  rw[heap_setCell_other w1 ⟨p,j,none⟩ k u (fun e=>hne (by rw[e]))]
  exact h.block k hk hne⟩
theorem grown_below{w w1 w2:World}{p:Nat}(h:w.grownBy w1 (some p))(hb:Below w1.heap.size w1 w2):w.grownBy w2 (some p):=
 ⟨hb.os.trans h.os,hb.tape.trans h.tape,hb.output.trans h.output,Nat.le_trans h.size hb.size,fun k hk hne=>(hb.block k (Nat.lt_of_lt_of_le hk h.size)).trans (h.block k hk hne)⟩
def RelMk(W:World)(g cap k0 n:Nat)(k i:Value)(wr:World):Prop:=
 ∃I:Nat,I≤n∧i= .int .i64 (I:Int)∧k= .int .i64 ((k0+3*I:Nat):Int)∧Blk wr g cap (marks k0 I)∧W.grownBy wr (some g)
set_option maxHeartbeats 1600000 in
theorem mark_toks(g cap n k0:Nat)(l:List Tk)(w:World)(hb:Blk w g cap l)(hn:n≤cap)(hn2:n≤1048576)(hk:0<k0)(hk2:k0≤10):
  Calls Tryz.prog 30 #[.slice (some ⟨g,0,none⟩) n cap,.int .i64 (k0:Int)] w fun e w'=>e= .returned (.int .i64 ((k0+3*n:Nat):Int))∧Blk w' g cap (marks k0 n)∧w.grownBy w' (some g):=by
 have y:=hid (show Blk w g cap (marks k0 0) by
  obtain⟨c,hc,hs,-,-⟩:=hb
  exact⟨c,hc,hs,by simp[marks],fun i hi=>by simp[marks]at hi⟩)
 clear hb
 go_enter Tryz.func30,Tryz.ntmps30
 go_wp2
 go_loopw [1,5] (fun k i wr=>RelMk w g cap k0 n k i wr) (fun _ i _=>n-(intOf i).toNat)
 case atStart=>exact⟨0,by omega,rfl,by simp,y.out,World.grownBy.refl w _⟩
 case round=>
  obtain⟨I,hI,rfl,rfl,hblk,hgr⟩:=hrel
  have HK:=hid hblk
  have HG:=hid hgr
  clear hblk hgr
  by_cases hlt:I<n
  ·have D:(I:Int)<(n:Int):=by omega
   have hll:=marks_len k0 I
   obtain⟨P,hP⟩:∃P,P=k0+3*I:=⟨_,rfl⟩
   rw[←hP]
   have hPb:0<P∧P≤4000000:=by omega
   have HP:=hid hP
   obtain⟨v0,e0⟩:=HK.some (I*3) (by omega)
   have f0:=HK.frozen (I*3)
   have hpre:=blk_pre HK.out (by omega) (.int .i64 (P:Int))
   rw[hll]at hpre
   have HPRE:=hid hpre
   have C:=hid (grown_set (j:=I*3) (.int .i64 (P:Int)) HG.out)
   clear hP hpre hll
   go_wp2_with fail
   refine(mark_text1 P _ (by omega)).mono ?_
   rintro e w2 ⟨rfl,b2⟩
   have h:=hid (HPRE.out.1.keep b2 HPRE.out.1.lt)
   have o:=hid ((b2.cell (p:=⟨g,I*3,none⟩) HPRE.out.1.lt).trans HPRE.out.2)
   have A:=hid (grown_below C.out b2)
   obtain⟨v1,e1⟩:=h.some (I*3+1) (by omega)
   obtain⟨v2,e2⟩:=h.some (I*3+2) (by omega)
   have f1:=h.frozen (I*3+1)
   have f2:=h.frozen (I*3+2)
   clear b2 e0 f0
   go_wp2
   go_roundw
   case rel=>
    refine⟨I+1,by omega,by go_num,congrArg (Value.int .i64) (by have:=HP.out;omega), ?_, ?_⟩
    ·have hq:=blk_post h.out (mk k0 I) (by rw[marks_len];omega) (by rw[marks_len,o.out,HP.out];rfl)
     rw[marks_len]at hq
     rw[marks_succ]
     have ea:(mk k0 I).s=markF (P+1):=by rw[HP.out];rfl
     have eb:(mk k0 I).a=(P:Int)+1+1:=by rw[HP.out];show((k0+3*I+2:Nat):Int)=_;omega
     rw[ea,eb]at hq
     exact hq
    ·exact grown_set _ (grown_set _ A.out)
   case measure=>simp[intOf];omega
  ·obtain rfl:I=n:=by omega
   go_wp2
   go_ret
   exact⟨rfl,HK.out,HG.out⟩
theorem mark_none(a:Option Addr)(cap:Nat)(k:Int)(w:World):
  Calls Tryz.prog 30 #[.slice a 0 cap,.int .i64 k] w fun e w'=>e= .returned (.int .i64 k)∧w=w':=by
 go_enter Tryz.func30,Tryz.ntmps30
 go_wp2
 go_loop [1,5] (fun k' i=>k'= .int .i64 k∧i= .int .i64 0) (fun _ _=>0)
 case atStart=>exact⟨rfl,rfl⟩
 case round=>
  obtain⟨rfl,rfl⟩:=hrel
  go_wp2
  go_ret
  exact⟨rfl,rfl⟩
def RelHd(W:World)(n k0:Nat)(k i:Value)(wr:World):Prop:=
 ∃I:Nat,I≤n∧i= .int .i64 (I:Int)∧k= .int .i64 ((k0+3*I:Nat):Int)∧Below W.heap.size W wr
theorem one_start{w W:World}{b o:Nat}{x:Tk}(h:At W b o x)(hB:Below w.heap.size w W):
  W.cell? ⟨b,o+1,none⟩=some (.string x.s)∧Below w.heap.size w W:=⟨h.2.1,hB⟩
theorem one_drew{w W:World}{b o:Nat}{x:ByteArray}(h:W.cell? ⟨b,o,none⟩=some (.string x)∧Below w.heap.size w W):W.drew.cell? ⟨b,o,none⟩=some (.string x)∧Below w.heap.size w W.drew:=⟨h.1,h.2.drew⟩
theorem one_keep{w W w1:World}{b o:Nat}{x:ByteArray}(hb:b<w.heap.size)(h:W.cell? ⟨b,o,none⟩=some (.string x)∧Below w.heap.size w W)(hk:Below W.heap.size W w1):w1.cell? ⟨b,o,none⟩=some (.string x)∧Below w.heap.size w w1:=
 ⟨(hk.cell (p:=⟨b,o,none⟩) (Nat.lt_of_lt_of_le hb h.2.size)).trans h.1,h.2.trans (hk.mono h.2.size)⟩
theorem eq_fault(k a:Int)(w:World):
  Calls Tryz.prog 28 #[.agg #[.int .i64 k,.int .i64 a],.agg #[.int .i64 k,.int .i64 a]] w fun e w'=>e= .returned (.bool true)∧Below w.heap.size w w':=by
 have d1:(k !=k)=false:=by simp
 have d2:(a !=a)=false:=by simp
 go_enter Tryz.func28,Tryz.ntmps28
 go_wp2
 go_ret
 exact⟨rfl,below_two _ _ _⟩
end Go.Proofs.YtebjmdpkobhcbaaGreatDoor.markt
