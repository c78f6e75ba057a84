/-

-/
import Derived.Test.YtnoagleifffkcaaGreatDoorZoGNd
import Derived.RangeFuncNested
import Derived.RangeFuncBound
import Derived.RangeFuncCalls
import Derived.RangeFuncLeaves
import Derived.RangeFuncBox
import Derived.Shelf.Abstract
import Derived.Shelf.RegionOpen
import Derived.OwnWalkIn
import Derived.TacticsInMore
import Derived.LoopNIn
import Derived.LoopIn
namespace Go.Proofs.YtnoagleifffkcaaGreatDoor.nd
set_option linter.unusedVariables false
def back(ss:List Nat):List Int→Nat→Option Nat
 |[],p=>some p
 |k::ks,p=>if k=(p:Int)-1∧p≠0 then back ss ks (ss.getD (p-1) 0)else none
def stF:List Nd→List Nat→Option (List Nat)
 |[],ss=>some ss
 |n::l,ss=>match back ss n.kids.reverse ss.length with
  |none=>none
  |some s=>stF l (ss++[s])
def Low(ss:List Nat):Prop:=∀i (h:i<ss.length),ss[i]≤i
theorem Low.nil:Low []:=fun i h=>by simp at h
theorem Low.get{ss:List Nat}(h:Low ss){i:Nat}(hi:i<ss.length):ss.getD i 0≤i:=by
 rw[List.getD_eq_getElem?_getD,List.getElem?_eq_getElem hi]
 exact h i hi
theorem Low.snoc{ss:List Nat}(h:Low ss){s:Nat}(hs:s≤ss.length):Low (ss++[s]):=fun i hi=>by
 simp at hi
 by_cases he:i<ss.length
 ·rw[List.getElem_append_left he];exact h i he
 ·obtain rfl:i=ss.length:=by omega
  rw[List.getElem_append_right (Nat.le_refl _)]
  simpa using hs
theorem back_le{ss:List Nat}(hl:Low ss):∀(ks:List Int) (p s:Nat),p≤ss.length→back ss ks p=some s→s≤p:=by
 intro ks
 induction ks with
 |nil=>intro p s _ h;simp[back]at h;omega
 |cons k ks ih=>
  intro p s hp h
  unfold back at h
  split at h
  ·next hc=>
   have:=hl.get (i:=p-1) (by omega)
   have:=ih _ _ (by omega) h
   omega
  ·cases h
theorem back_yes{ss:List Nat}{k:Int}{ks:List Int}{p:Nat}(h:k=(p:Int)-1)(h0:p≠0):back ss (k::ks) p=back ss ks (ss.getD (p-1) 0):=by
 simp only[back,if_pos (And.intro h h0)]
theorem back_no{ss:List Nat}{k:Int}{ks:List Int}{p:Nat}(h:¬(k=(p:Int)-1∧p≠0)):back ss (k::ks) p=none:=by
 simp only[back,if_neg h]
theorem stF_len{l:List Nd}:∀{ss r:List Nat},stF l ss=some r→r.length=ss.length+l.length:=by
 induction l with
 |nil=>intro ss r h;simp[stF]at h;subst h;simp
 |cons n l ih=>
  intro ss r h
  unfold stF at h
  split at h
  ·cases h
  ·have:=ih h
   simp at this⊢
   omega
theorem stF_low{l:List Nd}:∀{ss r:List Nat},Low ss→stF l ss=some r→Low r:=by
 induction l with
 |nil=>intro ss r hl h;simp[stF]at h;subst h;exact hl
 |cons n l ih=>
  intro ss r hl h
  unfold stF at h
  split at h
  ·cases h
  ·next s hs=>exact ih (hl.snoc (back_le hl _ _ _ (Nat.le_refl _) hs)) h
theorem stF_step{l:List Nd}{I:Nat}(h:I<l.length){ss:List Nat}{s:Nat}(hb:back ss l[I].kids.reverse ss.length=some s):stF (l.drop I) ss=stF (l.drop (I+1)) (ss++[s]):=by
 rw[List.drop_eq_getElem_cons h,stF,hb]
theorem stF_none{l:List Nd}{I:Nat}(h:I<l.length){ss:List Nat}(hb:back ss l[I].kids.reverse ss.length=none):stF (l.drop I) ss=none:=by
 rw[List.drop_eq_getElem_cons h,stF,hb]
theorem take_rev{k:List Int}{K:Nat}(h:K<k.length):(k.take (K+1)).reverse=k[K]::(k.take K).reverse:=by
 rw[List.take_succ_eq_append_getElem h,List.reverse_append];rfl
def stR(l:List Nd):List Nat:=(stF l []).getD []
def stB(l:List Nd):Bool:=(stF l []).isSome
def ints(ss:List Nat):List Int:=ss.map Int.ofNat
theorem ints_len(ss:List Nat):(ints ss).length=ss.length:=by simp[ints]
theorem ints_get{ss:List Nat}{i:Nat}(h:i<ss.length):(ints ss)[i]'(by rw[ints_len];exact h)=(ss[i]:Int):=by simp[ints]
theorem ints_snoc(ss:List Nat)(s:Nat):ints (ss++[s])=ints ss++[(s:Int)]:=by simp[ints]
def stO(l:List Nd):List Nat:=if l.length=0∨400<l.length then[]else match stF l []with
 |none=>[]
 |some ss=>if ss.getD (l.length-1) 0=0 then ss else[]
def shape(l:List Nd):Bool:=decide (0<(stO l).length)
theorem stO_out{l:List Nd}(h:l.length=0∨400<l.length):stO l=[]:=if_pos h
theorem stO_none{l:List Nd}(h:stF l []=none):stO l=[]:=by
 unfold stO
 rw[h]
 split<;>rfl
theorem stO_last{l:List Nd}{ss:List Nat}(h:stF l []=some ss)(h0:ss.getD (l.length-1) 0≠0):stO l=[]:=by
 unfold stO
 rw[h]
 split
 ·rfl
 ·simp only[if_neg h0]
theorem stO_some{l:List Nd}{ss:List Nat}(h1:l.length≠0)(h2:l.length≤400)(h:stF l []=some ss)(h0:ss.getD (l.length-1) 0=0):stO l=ss:=by
 unfold stO
 rw[h,if_neg (by omega)]
 simp only[if_pos h0]
theorem shape_no{l:List Nd}(h:stO l=[]):shape l=false:=by unfold shape;rw[h];rfl
theorem shape_yes{l:List Nd}(h:shape l=true):l.length≠0∧l.length≤400∧stF l []=some (stO l)∧(stO l).length=l.length∧Low (stO l)∧(stO l).getD (l.length-1) 0=0:=by
 have h':0<(stO l).length:=of_decide_eq_true h
 have hn:¬(l.length=0∨400<l.length):=fun hc=>by rw[stO_out hc]at h';simp at h'
 cases hs:stF l []with
 |none=>rw[stO_none hs]at h';simp at h'
 |some ss=>
  by_cases h0:ss.getD (l.length-1) 0=0
  ·have e:=stO_some (by omega) (by omega) hs h0
   rw[e]
   exact⟨by omega,by omega,rfl,by have:=stF_len hs;simpa using this,stF_low Low.nil hs,h0⟩
  ·rw[stO_last hs h0]at h';simp at h'
theorem shape_of{l:List Nd}{ss:List Nat}(h1:l.length≠0)(h2:l.length≤400)(h:stF l []=some ss)(h0:ss.getD (l.length-1) 0=0):shape l=true:=by
 unfold shape
 rw[stO_some h1 h2 h h0]
 have:=stF_len h
 simp at this
 exact decide_eq_true (by omega)
def startOf(l:List Nd)(i:Int):Int:=if 0≤i∧i<(stO l).length then((stO l).getD i.toNat 0:Nat)else-1
end Go.Proofs.YtnoagleifffkcaaGreatDoor.nd

namespace Go.Proofs.YtnoagleifffkcaaGreatDoor.nd
open Go.RowKit Go.Shelf
set_option linter.unusedVariables false
attribute [local go_sem] Oper.semAt_some
def came(zs:List Int)(K:Nat):List (Int×Int):=(List.range (zs.length-K)).map (fun j=>(((zs.length-1-j:Nat):Int),zs.getD (zs.length-1-j) 0))
theorem came_len(zs:List Int)(K:Nat):(came zs K).length=zs.length-K:=by simp[came]
theorem came_succ{zs:List Int}{K:Nat}(h:K<zs.length):came zs K=came zs (K+1)++[((K:Int),zs[K])]:=by
 unfold came
 rw[show zs.length-K=(zs.length-(K+1))+1 by omega,List.range_succ,List.map_append]
 simp only[List.map_cons,List.map_nil]
 rw[show zs.length-1-(zs.length-(K+1))=K by omega]
 simp[h]
theorem came_all(zs:List Int):came zs zs.length=[]:=by simp[came]
theorem came_vals{zs:List Int}:∀(d K:Nat),K+d=zs.length→(came zs K).map (·.2)=(zs.drop K).reverse:=by
 intro d
 induction d with
 |zero=>intro K h;rw[show K=zs.length by omega,came_all,List.drop_length];rfl
 |succ d ih=>
  intro K h
  have hK:K<zs.length:=by omega
  rw[came_succ hK,List.map_append,ih (K+1) (by omega),List.drop_eq_getElem_cons hK,List.reverse_cons]
  rfl
def BwK(n₀ Bs:Nat)(W W':World):Prop:=Below n₀ W W'∧W'.heap[Bs]? =W.heap[Bs]?
theorem BwK.refl(n₀ Bs:Nat)(W:World):BwK n₀ Bs W W:=⟨Below.refl _ _,rfl⟩
theorem BwK.trans{n₀ Bs:Nat}{A B C:World}(h:BwK n₀ Bs A B)(k:BwK n₀ Bs B C):BwK n₀ Bs A C:=⟨h.1.trans k.1,k.2.trans h.2⟩
theorem bwK_b{n₀ Bs:Nat}{w:World}(hn:n₀≤w.heap.size)(hb:Bs<w.heap.size)(W:World)(l:Nat)(o o':Obj)(hl:w.heap.size≤l)(h:W.heap[l]? =some o)(h1:o.isCells=false)(h2:o.isWalk=false):BwK n₀ Bs W (W.putObj l o'):=by
 refine⟨belowK_b hn W l o o' hl h h1 h2, ?_⟩
 have hlt:=(Array.getElem?_eq_some_iff.1 h).1
 exact(grownBy_putObj' W l o').block Bs (by omega) (fun e=>by cases e;omega)
set_option maxRecDepth 100000 in
set_option maxHeartbeats 2000000 in
theorem bw1_in(F:Fence)(n:Nat)(h7:F.fn 234)(hro:F.round=none)(hn:1≤n)(l Bs n₀:Nat)(a:Option Addr)(cap:Nat)(zs:List Int)(hreach:zs.length≤1048576)(J Jx:List (Int×Int)→World→Prop)
  (hY:∀pre x W,J pre W→pre.length<zs.length→YieldAt F (n-1) Tryz.prog l #[.int .i64 x.1,.int .i64 x.2] W fun e W'=>
   (e= .returned (.bool true)∧J (pre++[x]) W'∧BwK n₀ Bs W W')∨(e= .returned (.bool false)∧Jx (pre++[x]) W'))
  (W:World) (hBs:W.heap[Bs]? =some (.cells #[.slice a zs.length cap] 55 (0,0))) (hc:Ints n₀ W a zs) (h0:J [] W):
  CallsIn F n Tryz.prog 234 #[.func (.yield l) #[] #[],.pointer (some ⟨Bs,0,none⟩)] W fun e W'=>(∃v,e= .returned v)∧
   ((∃ys,ys=came zs 0∧J ys W')∨(∃pre,(∃K,K≤zs.length∧pre=came zs K)∧Jx pre W')):=by
 refine callsIn_of_wp Tryz.func234 rfl h7 ?_ hro
 simp only[Tryz.ntmps234,List.size_toArray,List.length_cons,List.length_nil,Nat.reduceAdd,Nat.reduceSub,Array.replicate_succ,Array.replicate_zero,List.push_toArray,List.append_toArray,List.nil_append,List.cons_append]
 have P:W.cell? ⟨Bs,0,none⟩=some (.slice a zs.length cap):=by rw[cell_of_row _ _ 0 _ _ _ hBs];rfl
 gi_wp2
 gi_loopw [3] (fun i wr=>∃(K:Nat) (kk:Int),K≤zs.length∧i= .int .i64 kk∧kk=(K:Int)-1∧J (came zs K) wr∧BwK n₀ Bs W wr)
  (fun i _=>(intOf i+1).toNat)
 case atStart=>exact⟨zs.length,_,Nat.le_refl _,rfl,rfl,by rw[came_all];exact h0,BwK.refl _ _ _⟩
 case round=>
  obtain⟨K,kk,hK,rfl,hkk,hJs,hnx⟩:=hrel
  have O:wr.cell? ⟨Bs,0,none⟩=some (.slice a zs.length cap):=by rw[cell_of_row _ _ 0 _ _ _ (hnx.2.trans hBs)];rfl
  by_cases hK0:K=0
  ·subst hK0
   have hneg:¬(0:Int)≤kk:=by omega
   clear hkk
   gi_wp2
   go_end0
   first|exact⟨⟨_,rfl⟩,.inl ⟨_,rfl,hJs⟩⟩|exact⟨⟨_,rfl⟩,.inl hJs⟩
  ·obtain⟨K,rfl⟩:∃K',K=K'+1:=⟨K-1,by omega⟩
   obtain rfl:kk=(K:Int):=by omega
   have hKl:K<zs.length:=by omega
   obtain⟨b,o,rfl,hb,hcell⟩:=ints_at hc hKl
   have c0:=(hnx.1.cell (p:=⟨b,o+K,none⟩) hb).trans (hcell K hKl)
   have hcs:=came_succ hKl
   obtain⟨x,hx⟩:∃x,x=zs[K]:=⟨_,rfl⟩
   rw[←hx]at c0 hcs
   have I:(K:Int)<(zs.length:Int):=by omega
   have G:(0:Int)≤(K:Int):=by omega
   clear hx hcell hkk hK0
   obtain⟨fn,tmps,assign,body,hy,hR⟩:=hY _ ((K:Int),x) wr hJs (by rw[came_len];omega)
   dsimp only at hy
   gi_wp2
   refine hR.mono ?_
   rintro e W3 (⟨rfl,j,y⟩|⟨rfl,hJx3⟩)
   ·gi_wp2
    go_roundw
    case rel=>exact⟨K,_,by omega,rfl,rfl,by rw[hcs];exact j,hnx.trans y⟩
    case measure=>simp[intOf]
   ·gi_wp2
    refine bodyPost_ret (results_none rfl _ _ _) rfl ?_
    first|exact⟨⟨_,rfl⟩,.inr ⟨_,⟨K,by omega,hcs.symm⟩,hJx3⟩⟩|exact⟨⟨_,rfl⟩,.inr ⟨_,K,by omega,hcs.symm,hJx3⟩⟩
set_option maxHeartbeats 1000000 in
theorem bw_in(F:Fence)(n:Nat)(h5:F.fn 218)(hro:F.round=none)(a:Option Addr)(len cap:Nat)(w:World):
  CallsIn F n Tryz.prog 218 #[.slice a len cap] w fun e w'=>e= .returned (.func (.func 234) #[] #[.pointer (some ⟨w.heap.size,0,none⟩)])∧w'=w.alloc (.cells #[.slice a len cap] 55):=by
 refine callsIn_of_wp Tryz.func218 rfl h5 ?_ hro
 simp only[Tryz.ntmps218,List.size_toArray,List.length_cons,List.length_nil,Nat.reduceAdd,Nat.reduceSub,Array.replicate_succ,Array.replicate_zero,List.push_toArray,List.append_toArray,List.nil_append,List.cons_append]
 gi_wp2
 go_ret
 exact⟨rfl,rfl⟩
theorem bw_stops(F:Fence)(n:Nat)(h7:F.fn 234)(hro:F.round=none)(hn:1≤n)(Bs n₀:Nat)(a:Option Addr)(cap:Nat)(zs:List Int)(hreach:zs.length≤1048576)(w:World)(hBs:Bs<w.heap.size)(hn₀:n₀≤w.heap.size)
  (hc:w.heap[Bs]? =some (.cells #[.slice a zs.length cap] 55 (0,0))) (hI:Ints n₀ w a zs):
  SeqStopsK F n Tryz.prog 234 #[.pointer (some ⟨Bs,0,none⟩)] (fun x:Int×Int=> #[Value.int .i64 x.1,Value.int .i64 x.2]) (BwK n₀ Bs) (fun ys=>ys=came zs 0)
   (fun pre=>∃K,K≤zs.length∧pre=came zs K) zs.length w:=fun l J Jx W hW _ _ hY h0=>by
 exact bw1_in F n h7 hro hn l Bs n₀ a cap zs hreach J Jx hY W ((hW.block Bs hBs).trans hc) (hI.keep (hW.mono hn₀) (Nat.le_refl _)) h0
end Go.Proofs.YtnoagleifffkcaaGreatDoor.nd

namespace Go.Proofs.YtnoagleifffkcaaGreatDoor.nd
open Lib (hid)
open Go.RowKit Go.Shelf
set_option linter.unusedVariables false
attribute [local go_sem] Oper.semAt_some
theorem back_app(ss:List Nat)(xs ys:List Int):∀(p:Nat),back ss (xs++ys) p=(back ss xs p).bind (back ss ys):=by
 induction xs with
 |nil=>intro p;rfl
 |cons x xs ih=>
  intro p
  by_cases h:x=(p:Int)-1∧p≠0
  ·rw[List.cons_append,back_yes h.1 h.2,back_yes h.1 h.2,ih]
  ·rw[List.cons_append,back_no h,back_no h];rfl
def subF(ss:List Nat)(zs:List Int):Int:=match back ss zs.reverse ss.length with
 |some s=>(s:Int)
 |none=> -1
theorem sub_some{ss:List Nat}{zs:List Int}{s:Nat}(h:back ss zs.reverse ss.length=some s):subF ss zs=(s:Int):=by unfold subF;rw[h]
theorem sub_none{ss:List Nat}{zs:List Int}(h:back ss zs.reverse ss.length=none):subF ss zs= -1:=by unfold subF;rw[h]
theorem came_back{ss:List Nat}{zs:List Int}(N:Nat):back ss ((came zs 0).map (·.2)) N=back ss zs.reverse N:=by
 rw[came_vals zs.length 0 (by omega)];rfl
theorem came_none{ss:List Nat}{zs:List Int}{K N:Nat}(hK:K≤zs.length)(h:back ss ((came zs K).map (·.2)) N=none):back ss zs.reverse N=none:=by
 rw[came_vals (zs.length-K) K (by omega)]at h
 have e:zs.reverse=(zs.drop K).reverse++(zs.take K).reverse:=by rw[←List.reverse_append,List.take_append_drop]
 rw[e,back_app,h]
 rfl
set_option maxRecDepth 100000 in
set_option maxHeartbeats 2000000 in
theorem subtree_in(F:Fence)(n:Nat)(h3:F.fn 196)(h5:F.fn 218)(h7:F.fn 234)(hro:F.round=none)(hn:3≤n)
  (ss:List Nat) (zs:List Int) (a a':Option Addr) (cap cap':Nat) (w:World) (hl:Low ss) (hs:ss.length≤1048576) (hreach:zs.length≤1048576) (hc:Ints w.heap.size w a (ints ss)) (hc':Ints w.heap.size w a' zs):
  CallsIn F n Tryz.prog 196 #[.slice a ss.length cap,.slice a' zs.length cap'] w fun e W'=>e= .returned (.int .i64 (subF ss zs))∧Below w.heap.size w W':=by
 have h1:1≤n:=by omega
 refine callsIn_of_wp_marks Tryz.func196 rfl h3 ?_ hro
 simp only[Tryz.ntmps196,List.size_toArray,List.length_cons,List.length_nil,Nat.reduceAdd,Nat.reduceSub,Array.replicate_succ,Array.replicate_zero,List.push_toArray,List.append_toArray,List.nil_append,List.cons_append]
 gi_wp2_with (gi_at_call 218;refine(bw_in F (n-1) h5 hro _ _ _ _).mono ?_;rintro e w' ⟨rfl,rfl⟩)
 obtain⟨W0,j⟩:∃W0,W0=(((w.alloc (.cells #[.slice a ss.length cap] 55)).alloc (.cells #[.int .i64 0] 3)).alloc (.cells #[.int .i64 (ss.length:Int)] 3)).alloc (.cells #[.slice a' zs.length cap'] 55):=⟨_,rfl⟩
 rw[←j]
 have hsz:W0.heap.size=w.heap.size+1+1+1+1:=by rw[j];simp
 have y:Below w.heap.size w W0:=by rw[j];exact(below_three _ _ _ _).alloc (by simp<;>omega) _
 have k0:W0.heap[w.heap.size]? =some (.cells #[.slice a ss.length cap] 55 (0,0)):=by
  rw[j,Below.heap_alloc _ _ _ (by simp<;>omega),Below.heap_alloc _ _ _ (by simp<;>omega),Below.heap_alloc _ _ _ (by simp<;>omega)]
  exact heap_alloc_new w _
 have k1:W0.heap[w.heap.size+1]? =some (.cells #[.int .i64 0] 3 (0,0)):=by
  rw[j,Below.heap_alloc _ _ _ (by simp<;>omega),Below.heap_alloc _ _ _ (by simp<;>omega)]
  have:=heap_alloc_new (w.alloc (.cells #[.slice a ss.length cap] 55)) (.cells #[.int .i64 0] 3)
  simp only[World.size_alloc]at this
  exact this
 have k2:W0.heap[w.heap.size+1+1]? =some (.cells #[.int .i64 (ss.length:Int)] 3 (0,0)):=by
  rw[j,Below.heap_alloc _ _ _ (by simp<;>omega)]
  have:=heap_alloc_new ((w.alloc (.cells #[.slice a ss.length cap] 55)).alloc (.cells #[.int .i64 0] 3)) (.cells #[.int .i64 (ss.length:Int)] 3)
  simp only[World.size_alloc]at this
  exact this
 have k3:W0.heap[w.heap.size+1+1+1]? =some (.cells #[.slice a' zs.length cap'] 55 (0,0)):=by
  rw[j]
  have:=heap_alloc_new (((w.alloc (.cells #[.slice a ss.length cap] 55)).alloc (.cells #[.int .i64 0] 3)).alloc (.cells #[.int .i64 (ss.length:Int)] 3)) (.cells #[.slice a' zs.length cap'] 55)
  simp only[World.size_alloc]at this
  exact this
 clear j
 refine wpIn_rangeFunc_ownG hro h1 (gf:=234) (lb:= #[.pointer (some ⟨w.heap.size+1+1+1,0,none⟩)]) rfl h7 (enters_of Tryz.func234 (by kernel_rfl) rfl)
  (bw_stops F (n-1) h7 hro (by omega) (w.heap.size+1+1+1) w.heap.size a' cap' zs hreach W0 (by omega) y.size k3 (hc'.keep y (Nat.le_refl _))) BwK.trans (bwK_b y.size (by omega)) (Below.refl _ _) (fun _=>rfl)
  (fun pre W=>(∃P:Nat,back ss (pre.map (·.2)) ss.length=some P∧W.cell? ⟨w.heap.size+1+1,0,none⟩=some (.int .i64 (P:Int))∧W.frozen? ⟨w.heap.size+1+1,0,none⟩=false∧W.cell? ⟨w.heap.size+1,0,none⟩=some (.int .i64 0)∧W.frozen? ⟨w.heap.size+1,0,none⟩=false∧W.cell? ⟨w.heap.size,0,none⟩=some (.slice a ss.length cap))∧Below w.heap.size w W)
  (fun c pre W=>(c= .ret∧back ss (pre.map (·.2)) ss.length=none∧W.cell? ⟨w.heap.size+1,0,none⟩=some (.int .i64 (-1)))∧Below w.heap.size w W)
  (OwnFrom.and (Own.from (fun s A B row hs hg hr=>by
   obtain⟨P,e1,e2,e3,e4,e5,e6⟩:=hs
   exact⟨P,e1,cell_kept e2 hg hr,(frozen_kept e2 hg hr).trans e3,cell_kept e4 hg hr,(frozen_kept e4 hg hr).trans e5,cell_kept e6 hg hr⟩) _) (ownFrom_below (Nat.le_refl _) (by omega)))
  (fun c=>OwnFrom.and (Own.from (fun s A B row hs hg hr=>⟨hs.1,hs.2.1,cell_kept hs.2.2 hg hr⟩) _) (ownFrom_below (Nat.le_refl _) (by omega)))
  ⟨⟨ss.length,rfl,by rw[cell_of_row _ _ 0 _ _ _ k2];rfl,frozen_of_row _ _ 0 _ _ k2,by rw[cell_of_row _ _ 0 _ _ _ k1];rfl,frozen_of_row _ _ 0 _ _ k1,by rw[cell_of_row _ _ 0 _ _ _ k0];rfl⟩,y⟩
  (fun x=>{tmps:= #[.slice a ss.length cap,.slice a' zs.length cap',.pointer (some ⟨w.heap.size,0,none⟩),undef,.pointer (some ⟨w.heap.size+1,0,none⟩),.pointer (some ⟨w.heap.size+1+1,0,none⟩),undef,.int .i64 x.2,.slice a ss.length cap,.int .i64 (ss.length:Int),.slice a' zs.length cap',.func (.func 234) #[] #[.pointer (some ⟨w.heap.size+1+1+1,0,none⟩)],.int .i64 x.1,.int .i64 x.2,undef,undef,undef,undef,undef,undef,undef,undef,undef,undef,undef,undef,undef],defers:=[]}) ?assign ?body ?done ?stop
 case assign=>
  intro l x W K hK
  gi_wp2
  exact hK
 case body=>
  rintro l pre x W ⟨⟨P,hP,c2,f2,c1,f1,c0⟩,hB⟩ _
  obtain⟨xi,xv⟩:=x
  have hPle:=back_le hl _ _ _ (Nat.le_refl _) hP
  have happ:back ss ((pre++[(xi,xv)]).map (·.2)) ss.length=back ss [xv] P:=by rw[List.map_append,back_app,hP];rfl
  have HAPP:=hid happ
  clear happ hP
  by_cases hx0:xv<0
  ·have HN:=hid (show back ss [xv] P=none from back_no (fun h=>by omega))
   dsimp only
   gi_wp2
   exact⟨(KeepsOthers.setCell _ _ _).from _,⟨rfl,by rw[HAPP.out,HN.out],World.cell?_setCell_same' _ _ _ (by rw[c1];rfl)⟩,hB.setCell (p:=⟨w.heap.size+1,0,none⟩) (by show w.heap.size≤w.heap.size+1;omega) _⟩
  ·by_cases hx1:xv=(P:Int)-1
   ·obtain⟨P,rfl⟩:∃P',P=P'+1:=⟨P-1,by omega⟩
    obtain rfl:xv=(P:Int):=by omega
    have hPl:P<ss.length:=by omega
    have HN:=hid (show back ss [(P:Int)] (P+1)=some (ss[P]'hPl) by rw[back_yes (by omega) (by omega)];simp[back,hPl])
    obtain⟨b,o,rfl,hb,hcell⟩:=ints_at hc (I:=P) (by rw[ints_len];exact hPl)
    have c9:=(hB.cell (p:=⟨b,o+P,none⟩) hb).trans (hcell P (by rw[ints_len];exact hPl))
    rw[ints_get hPl]at c9
    have O:(P:Int)<(ss.length:Int):=by omega
    have V:(0:Int)≤(P:Int):=by omega
    clear hcell hx1
    dsimp only
    gi_wp2
    have hle:w.heap.size≤w.heap.size+1+1:=by omega
    exact⟨(KeepsOthers.setCell _ _ _).from _,⟨(Below.refl w.heap.size W).setCell (p:=⟨w.heap.size+1+1,0,none⟩) hle _,heap_setCell_other W ⟨w.heap.size+1+1,0,none⟩ (w.heap.size+1+1+1) _ (by show w.heap.size+1+1+1≠w.heap.size+1+1;omega)⟩,
     ⟨_,by rw[HAPP.out,HN.out],World.cell?_setCell_same' _ _ _ (by rw[c2];rfl),by rw[World.frozen?_setCell];exact f2,(World.cell?_setCell_far W ⟨w.heap.size+1+1,0,none⟩ ⟨w.heap.size+1,0,none⟩ _ (by show w.heap.size+1+1≠w.heap.size+1;omega)).trans c1,by rw[World.frozen?_setCell];exact f1,(World.cell?_setCell_far W ⟨w.heap.size+1+1,0,none⟩ ⟨w.heap.size,0,none⟩ _ (by show w.heap.size+1+1≠w.heap.size;omega)).trans c0⟩,hB.setCell (p:=⟨w.heap.size+1+1,0,none⟩) hle _⟩
   ·have HN:=hid (show back ss [xv] P=none from back_no (fun h=>hx1 h.1))
    obtain⟨q1,q2⟩:(xv==(P:Int)-1)=false∧(xv !=(P:Int)-1)=true:=by simp[hx1]
    have S:IntKind.i64.wrap ((P:Int)-1)=(P:Int)-1:=by rw[IntKind.wrap_i64];omega
    have X:wrap64 ((P:Int)-1)=(P:Int)-1:=by unfold wrap64;omega
    dsimp only
    gi_wp2
    exact⟨(KeepsOthers.setCell _ _ _).from _,⟨rfl,by rw[HAPP.out,HN.out],World.cell?_setCell_same' _ _ _ (by rw[c1];rfl)⟩,hB.setCell (p:=⟨w.heap.size+1,0,none⟩) (by show w.heap.size≤w.heap.size+1;omega) _⟩
 case done=>
  rintro D ys W hD rfl ⟨⟨P,hP,c2,f2,c1,f1,c0⟩,hB⟩ hK
  rw[came_back]at hP
  have hS:=sub_some hP
  gi_wp2
  have hK':=(KeepsOthers.setCell W ⟨w.heap.size+1,0,none⟩ (.int .i64 (P:Int))).same D _ hK rfl
  refine⟨by simp,.inl ⟨_,_,rfl,run_takeDeferred hK', ?_⟩⟩
  have G:=cell_kept (World.cell?_setCell_same' W ⟨w.heap.size+1,0,none⟩ (.int .i64 (P:Int)) (by rw[c1];rfl)) (grownBy_putObj' _ D (.deferred none)) (fun r e=>by cases e;exact⟨_,hK',rfl⟩)
  refine⟨.int .i64 (P:Int), ?_,by rw[hS],(hB.setCell (p:=⟨w.heap.size+1,0,none⟩) (by show w.heap.size≤w.heap.size+1;omega) _).trans (belowK_b (w:=w) (Nat.le_refl _) _ D _ _ (by omega) hK' rfl rfl)⟩
  simp[results,Tryz.results196,go_sem,G]
 case stop=>
  rintro D c pre W hD ⟨K,J,rfl⟩ ⟨⟨rfl,hP,c1⟩,hB⟩ hK
  have hS:=sub_none (came_none J hP)
  gi_wp2
  refine⟨by simp,.inl ⟨_,_,rfl,run_takeDeferred hK, ?_⟩⟩
  have G:=cell_kept c1 (grownBy_putObj' _ D (.deferred none)) (fun r e=>by cases e;exact⟨_,hK,rfl⟩)
  refine⟨.int .i64 (-1), ?_,by rw[hS],hB.trans (belowK_b (w:=w) (Nat.le_refl _) W D _ _ (by omega) hK rfl rfl)⟩
  simp[results,Tryz.results196,go_sem,G]
end Go.Proofs.YtnoagleifffkcaaGreatDoor.nd
