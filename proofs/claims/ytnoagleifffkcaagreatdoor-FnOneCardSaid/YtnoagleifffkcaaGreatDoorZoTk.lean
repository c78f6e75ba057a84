/-

-/
import Derived.Test.YtnoagleifffkcaaGreatDoorRows
import Derived.Test.YtnoagleifffkcaaGreatDoorZoGBs
import Derived.WalkKit
import Derived.ProofKit
import Derived.OpenShut
import Derived.ShutString
import Derived.ChangeOld
import Derived.Below
import Derived.WalkSpells
import Derived.WalkLawsBesides
import Derived.BigQuiet
import Derived.RegionTactic
import Derived.Deep.QuietTactic
import Derived.Deep.MidRow
import Derived.Deep.RegionHeld3
namespace Go.Proofs.YtnoagleifffkcaaGreatDoor.tk
open Go.ChangeShapes Go.WideShapes Go.ChangeAt Go.RowKit
set_option linter.unusedVariables false
structure Tk where
 k:Int
 s:ByteArray
 a:Int
def Tk.val(t:Tk):Value:= .agg #[.int .i64 t.k,.string t.s,.int .i64 t.a]
instance :Inhabited Tk:=⟨⟨0,⟨#[]⟩,0⟩⟩
def At(w:World)(b o:Nat)(t:Tk):Prop:=w.cell? ⟨b,o,none⟩=some (.int .i64 t.k)∧w.cell? ⟨b,o+1,none⟩=some (.string t.s)∧w.cell? ⟨b,o+2,none⟩=some (.int .i64 t.a)
def Lies(B:Nat)(w:World)(a:Option Addr)(l:List Tk):Prop:=
 l=[]∨∃b o,a=some ⟨b,o,none⟩∧b<B∧∀i (h:i<l.length),At w b (o+i*3) l[i]
theorem At.keep{B b o:Nat}{w w':World}{t:Tk}(h:At w b o t)(hb:Below B w w')(hB:b<B):At w' b o t:=
 ⟨(hb.cell (p:=⟨b,o,none⟩) hB).trans h.1,(hb.cell (p:=⟨b,o+1,none⟩) hB).trans h.2.1,(hb.cell (p:=⟨b,o+2,none⟩) hB).trans h.2.2⟩
theorem Lies.keep{B B':Nat}{w w':World}{a:Option Addr}{l:List Tk}(h:Lies B w a l)(hb:Below B' w w')(hB:B≤B'):Lies B w' a l:=by
 rcases h with h|⟨b,o,rfl,hlt,hc⟩
 ·exact .inl h
 ·exact .inr ⟨b,o,rfl,hlt,fun i hi=>(hc i hi).keep hb (Nat.lt_of_lt_of_le hlt hB)⟩
theorem Lies.up{B B':Nat}{w:World}{a:Option Addr}{l:List Tk}(h:Lies B w a l)(hB:B≤B'):Lies B' w a l:=by
 rcases h with h|⟨b,o,rfl,hlt,hc⟩
 ·exact .inl h
 ·exact .inr ⟨b,o,rfl,by omega,hc⟩
def tot:List Tk→Nat
 |[]=>0
 |t::l=>t.s.size+tot l
def left1(n left:Nat):Int:=if n≤left then(left:Int)-n else-1
def RelSz(B:Nat)(W:World)(l:List Tk)(left:Nat)(m i:Value)(wr:World):Prop:=
 ∃I L:Nat,I≤l.length∧i= .int .i64 (I:Int)∧m= .int .i64 (L:Int)∧left=L+l.length+tot (l.take I)∧Below B W wr
def sz(l:List Tk)(left:Nat):Int:=left1 (l.length+tot l) left
theorem lies_at{B:Nat}{w:World}{a:Option Addr}{l:List Tk}{I:Nat}(h:Lies B w a l)(hI:I<l.length):∃b o,a=some ⟨b,o,none⟩∧b<B∧∀i (h:i<l.length),At w b (o+i*3) l[i]:=by
 rcases h with h|h
 ·rw[h]at hI;simp at hI
 ·exact h
def Blk(w:World)(g:Nat)(n:Nat)(l:List Tk):Prop:=
 ∃c:Array Value,w.heap[g]? =some (.cells c 75 (0,0))∧c.size=n*3∧l.length≤n∧∀i (h:i<l.length),c[i*3]? =some (.int .i64 l[i].k)∧c[i*3+1]? =some (.string l[i].s)∧c[i*3+2]? =some (.int .i64 l[i].a)
theorem Blk.lt{w:World}{g n:Nat}{l:List Tk}(h:Blk w g n l):g<w.heap.size:=by
 obtain⟨c,hc,-⟩:=h
 rcases Nat.lt_or_ge g w.heap.size with h'|h'
 ·exact h'
 ·rw[Array.getElem?_eq_none h']at hc;cases hc
theorem Blk.at{w:World}{g n:Nat}{l:List Tk}(h:Blk w g n l)(i:Nat)(hi:i<l.length):At w g (i*3) l[i]:=by
 obtain⟨c,hc,hs,hl,hx⟩:=h
 obtain⟨x0,x1,x2⟩:=hx i hi
 exact⟨by rw[cell_of_row w g _ _ _ _ hc];exact x0,by rw[cell_of_row w g _ _ _ _ hc];exact x1,by rw[cell_of_row w g _ _ _ _ hc];exact x2⟩
theorem Blk.lies{w:World}{g n:Nat}{l:List Tk}(h:Blk w g n l):Lies w.heap.size w (some ⟨g,0,none⟩) l:=
 .inr ⟨g,0,rfl,h.lt,fun i hi=>by rw[Nat.zero_add];exact h.at i hi⟩
theorem Blk.of_block{w w':World}{g n:Nat}{l:List Tk}(h:Blk w g n l)(e:w'.heap[g]? =w.heap[g]?):Blk w' g n l:=by
 obtain⟨c,hc,r⟩:=h
 exact⟨c,e.trans hc,r⟩
theorem Blk.keep{B:Nat}{w w':World}{g n:Nat}{l:List Tk}(h:Blk w g n l)(hb:Below B w w')(hg:g<B):Blk w' g n l:=h.of_block (hb.block g hg)
theorem Blk.frozen{w:World}{g n:Nat}{l:List Tk}(h:Blk w g n l)(j:Nat):w.frozen? ⟨g,j,none⟩=false:=by
 obtain⟨c,hc,-⟩:=h
 exact frozen_of_row w g j _ _ hc
theorem Blk.some{w:World}{g n:Nat}{l:List Tk}(h:Blk w g n l)(j:Nat)(hj:j<n*3):∃v,w.cell? ⟨g,j,none⟩=some v:=by
 obtain⟨c,hc,hs,-⟩:=h
 rw[cell_of_row w g j _ _ _ hc]
 exact⟨c[j]'(by omega),Array.getElem?_eq_getElem (by omega)⟩
theorem Blk.put{w:World}{g n:Nat}{l:List Tk}(h:Blk w g n l)(t:Tk)(hl:l.length<n):
  Blk (((w.setCell ⟨g,l.length*3,none⟩ (.int .i64 t.k)).setCell ⟨g,l.length*3+1,none⟩ (.string t.s)).setCell ⟨g,l.length*3+2,none⟩ (.int .i64 t.a)) g n (l++[t]):=by
 obtain⟨c,hc,hs,_,hx⟩:=h
 refine⟨((c.setIfInBounds (l.length*3) (.int .i64 t.k)).setIfInBounds (l.length*3+1) (.string t.s)).setIfInBounds (l.length*3+2) (.int .i64 t.a), ?_,by simpa using hs,by simp;omega, ?_⟩
 ·exact heap_setCell_same _ g _ _ _ _ (heap_setCell_same _ g _ _ _ _ (heap_setCell_same _ g _ _ _ _ hc))
 ·intro i hi
  simp at hi
  by_cases he:i<l.length
  ·have hne:∀(p q:Nat),p<3→q<3→l.length*3+p≠i*3+q:=by omega
   obtain⟨x0,x1,x2⟩:=hx i he
   rw[List.getElem_append_left he]
   simp only[Array.getElem?_setIfInBounds]
   refine⟨?_, ?_, ?_⟩
   ·rw[if_neg (by omega),if_neg (by omega),if_neg (by omega)];exact x0
   ·rw[if_neg (by omega),if_neg (by omega),if_neg (by omega)];exact x1
   ·rw[if_neg (by omega),if_neg (by omega),if_neg (by omega)];exact x2
  ·obtain rfl:i=l.length:=by omega
   rw[List.getElem_append_right (Nat.le_refl _)]
   simp only[Array.getElem?_setIfInBounds,Array.size_setIfInBounds,Nat.sub_self,List.getElem_cons_zero]
   refine⟨?_, ?_, ?_⟩
   ·rw[if_neg (by omega),if_neg (by omega),if_pos trivial,if_pos (by omega)]
   ·rw[if_neg (by omega),if_pos trivial,if_pos (by omega)]
   ·rw[if_pos trivial,if_pos (by omega)]
theorem Tryz.infoTok:(Tryz.prog.info? 75).map (fun i=>(i.zero,i.size,i.bytes))=some (some (.agg #[.int .i64 0,.string ⟨#[]⟩,.int .i64 0]),3,32):=by kernel_rfl
theorem Blk.made(w:World)(n:Nat):Blk (w.alloc (.cells (madeCells #[.int .i64 0,.string ⟨#[]⟩,.int .i64 0] (n*3)) 75)) w.heap.size n []:=
 ⟨_,heap_alloc_new w _,by simp[madeCells],by simp,fun i hi=>by simp at hi⟩
def RelTo(B:Nat)(W:World)(l:List Tk)(i:Value)(wr:World):Prop:=
 ∃I:Nat,I≤l.length∧i= .int .i64 (I:Int)∧Below B W wr∧Blk wr B l.length (l.take I)
theorem eq_facts{x c:Int}(h:x=c):(x==c)=true∧(x !=c)=false:=by subst h;simp
theorem ne_facts{x c:Int}(h:¬x=c):(x==c)=false∧(x !=c)=true:=by simp[h]
theorem str_eq{x y:ByteArray}(h:x=y):(x.toList==y.toList)=true∧(x.toList !=y.toList)=false:=by subst h;simp
theorem str_ne{x y:ByteArray}(h:¬x=y):(x.toList==y.toList)=false∧(x.toList !=y.toList)=true:=by
 have:(x.toList==y.toList)=false:=by
  rw[beq_eq_false_iff_ne,ByteArray.toList_eq,ByteArray.toList_eq]
  intro e
  exact h (ByteArray.ext (Array.toList_inj.1 e))
 exact⟨this,by rw[bne,this];rfl⟩
instance :DecidableEq Tk:=fun x y=>
 if h:x.k=y.k∧x.s=y.s∧x.a=y.a then isTrue (by cases x;cases y;simp_all)else isFalse (fun e=>h (by subst e;exact⟨rfl,rfl,rfl⟩))
def RelEq(B:Nat)(W:World)(l m:List Tk)(i:Value)(wr:World):Prop:=
 ∃I:Nat,I≤l.length∧i= .int .i64 (I:Int)∧Below B W wr∧l.take I=m.take I
theorem take_step{l m:List Tk}{I:Nat}(h:I<l.length)(hlen:l.length=m.length)(ht:l.take I=m.take I)(he:l[I]=m[I]'(hlen▸h)):l.take (I+1)=m.take (I+1):=by
 rw[List.take_succ_eq_append_getElem h,List.take_succ_eq_append_getElem (hlen▸h),ht,he]
theorem at_ne{l m:List Tk}{I:Nat}(h:I<l.length)(hlen:l.length=m.length)(he:¬l[I]=m[I]'(hlen▸h)):¬l=m:=by
 intro e;subst e;exact he rfl
end Go.Proofs.YtnoagleifffkcaaGreatDoor.tk
