/-

-/
import Derived.Test.YtnoagleifffkcaaGreatDoorRows
import Derived.Test.YtnoagleifffkcaaGreatDoorZoGBs
import Derived.WalkKit
import Derived.ProofKit
import Derived.OpenShut
import Derived.ShutString
import Derived.ChangeOld
import Derived.Below
import Derived.WalkSpells
import Derived.WalkLawsBesides
import Derived.BigQuiet
import Derived.RegionTactic
import Derived.Deep.QuietTactic
import Derived.Deep.MidRow
import Derived.Deep.RegionHeld3
import Derived.Laws.OwnMore
import Derived.Deep.AppendLies
import Derived.Deep.RegionLaw
namespace Go.Proofs.YtnoagleifffkcaaGreatDoor.nd
open Go.ChangeShapes Go.WideShapes Go.ChangeAt Go.RowKit
set_option linter.unusedVariables false
structure Nd where
 k:Int
 op:Int
 s:ByteArray
 t:ByteArray
 kids:List Int
instance :Inhabited Nd:=⟨⟨0,0,⟨#[]⟩,⟨#[]⟩,[]⟩⟩
instance :DecidableEq Nd:=fun x y=>
 if h:x.k=y.k∧x.op=y.op∧x.s=y.s∧x.t=y.t∧x.kids=y.kids then isTrue (by cases x;cases y;simp_all)else isFalse (fun e=>h (by subst e;exact⟨rfl,rfl,rfl,rfl,rfl⟩))
def Ints(B:Nat)(w:World)(a:Option Addr)(l:List Int):Prop:=
 l=[]∨∃b o,a=some ⟨b,o,none⟩∧b<B∧∀i (h:i<l.length),w.cell? ⟨b,o+i,none⟩=some (.int .i64 l[i])
theorem Ints.keep{B B':Nat}{w w':World}{a:Option Addr}{l:List Int}(h:Ints B w a l)(hb:Below B' w w')(hB:B≤B'):Ints B w' a l:=by
 rcases h with h|⟨b,o,rfl,hlt,hc⟩
 ·exact .inl h
 ·exact .inr ⟨b,o,rfl,hlt,fun i hi=>(hb.cell (p:=⟨b,o+i,none⟩) (Nat.lt_of_lt_of_le hlt hB)).trans (hc i hi)⟩
theorem Ints.up{B B':Nat}{w:World}{a:Option Addr}{l:List Int}(h:Ints B w a l)(hB:B≤B'):Ints B' w a l:=by
 rcases h with h|⟨b,o,rfl,hlt,hc⟩
 ·exact .inl h
 ·exact .inr ⟨b,o,rfl,by omega,hc⟩
theorem ints_at{B:Nat}{w:World}{a:Option Addr}{l:List Int}{I:Nat}(h:Ints B w a l)(hI:I<l.length):∃b o,a=some ⟨b,o,none⟩∧b<B∧∀i (h:i<l.length),w.cell? ⟨b,o+i,none⟩=some (.int .i64 l[i]):=by
 rcases h with h|h
 ·rw[h]at hI;simp at hI
 ·exact h
def Five(w:World)(b o:Nat)(n:Nd)(a:Option Addr)(cap:Nat):Prop:=
 w.cell? ⟨b,o,none⟩=some (.int .i64 n.k)∧w.cell? ⟨b,o+1,none⟩=some (.int .i64 n.op)∧w.cell? ⟨b,o+2,none⟩=some (.string n.s)∧w.cell? ⟨b,o+3,none⟩=some (.string n.t)∧w.cell? ⟨b,o+4,none⟩=some (.slice a n.kids.length cap)
theorem Five.keep{B b o:Nat}{w w':World}{n:Nd}{a:Option Addr}{cap:Nat}(h:Five w b o n a cap)(hb:Below B w w')(hB:b<B):Five w' b o n a cap:=
 ⟨(hb.cell (p:=⟨b,o,none⟩) hB).trans h.1,(hb.cell (p:=⟨b,o+1,none⟩) hB).trans h.2.1,(hb.cell (p:=⟨b,o+2,none⟩) hB).trans h.2.2.1,(hb.cell (p:=⟨b,o+3,none⟩) hB).trans h.2.2.2.1,(hb.cell (p:=⟨b,o+4,none⟩) hB).trans h.2.2.2.2⟩
def At(B:Nat)(w:World)(b o:Nat)(n:Nd):Prop:=∃a cap,Five w b o n a cap∧Ints B w a n.kids
theorem At.keep{B B' b o:Nat}{w w':World}{n:Nd}(h:At B w b o n)(hb:Below B' w w')(hB:B≤B')(hlt:b<B'):At B w' b o n:=by
 obtain⟨a,cap,h5,hi⟩:=h
 exact⟨a,cap,h5.keep hb hlt,hi.keep hb hB⟩
theorem At.up{B B' b o:Nat}{w:World}{n:Nd}(h:At B w b o n)(hB:B≤B'):At B' w b o n:=by
 obtain⟨a,cap,h5,hi⟩:=h
 exact⟨a,cap,h5,hi.up hB⟩
def Lies(B:Nat)(w:World)(a:Option Addr)(l:List Nd):Prop:=
 l=[]∨∃b o,a=some ⟨b,o,none⟩∧b<B∧∀i (h:i<l.length),At B w b (o+i*5) l[i]
theorem Lies.keep{B B':Nat}{w w':World}{a:Option Addr}{l:List Nd}(h:Lies B w a l)(hb:Below B' w w')(hB:B≤B'):Lies B w' a l:=by
 rcases h with h|⟨b,o,rfl,hlt,hc⟩
 ·exact .inl h
 ·exact .inr ⟨b,o,rfl,hlt,fun i hi=>(hc i hi).keep hb hB (Nat.lt_of_lt_of_le hlt hB)⟩
theorem Lies.up{B B':Nat}{w:World}{a:Option Addr}{l:List Nd}(h:Lies B w a l)(hB:B≤B'):Lies B' w a l:=by
 rcases h with h|⟨b,o,rfl,hlt,hc⟩
 ·exact .inl h
 ·exact .inr ⟨b,o,rfl,by omega,fun i hi=>(hc i hi).up hB⟩
theorem Lies.on{B:Nat}{w w':World}{a:Option Addr}{l:List Nd}(h:Lies B w a l)(hb:Below B w w')(hB:B≤w.heap.size):Lies w'.heap.size w' a l:=
 (h.keep hb (Nat.le_refl _)).up (Nat.le_trans hB hb.size)
theorem lies_at{B:Nat}{w:World}{a:Option Addr}{l:List Nd}{I:Nat}(h:Lies B w a l)(hI:I<l.length):∃b o,a=some ⟨b,o,none⟩∧b<B∧∀i (h:i<l.length),At B w b (o+i*5) l[i]:=by
 rcases h with h|h
 ·rw[h]at hI;simp at hI
 ·exact h
def Nd.sz(n:Nd):Nat:=n.s.size+n.t.size+n.kids.length
def tot:List Nd→Nat
 |[]=>0
 |t::l=>t.sz+tot l
def Nd.fit(n:Nd):Prop:=n.s.size≤maxLen∧n.t.size≤maxLen∧n.kids.length≤maxLen
def leftI(n:Nat)(x:Int):Int:=if(n:Int)≤x then x-n else-1
def RelSz(B:Nat)(W:World)(l:List Nd)(x0:Int)(m i:Value)(wr:World):Prop:=
 ∃(I:Nat) (X:Int),I≤l.length∧i= .int .i64 (I:Int)∧m= .int .i64 X∧0≤X∧x0=X+l.length+tot (l.take I)∧Below B W wr
def sz(l:List Nd)(x:Int):Int:=leftI (l.length+tot l) x
end Go.Proofs.YtnoagleifffkcaaGreatDoor.nd

namespace Go.Proofs.YtnoagleifffkcaaGreatDoor.nd
open Go.ChangeShapes Go.WideShapes Go.ChangeAt Go.RowKit
set_option linter.unusedVariables false
def IBlk(w:World)(g n:Nat)(l:List Int):Prop:=
 ∃c:Array Value,w.heap[g]? =some (.cells c 3 (0,0))∧c.size=n∧l.length≤n∧∀i (h:i<l.length),c[i]? =some (.int .i64 l[i])
theorem lt_of_heap{w:World}{g:Nat}{o:Obj}(h:w.heap[g]? =some o):g<w.heap.size:=by
 rcases Nat.lt_or_ge g w.heap.size with h'|h'
 ·exact h'
 ·rw[Array.getElem?_eq_none h']at h;cases h
theorem IBlk.lt{w:World}{g n:Nat}{l:List Int}(h:IBlk w g n l):g<w.heap.size:=by
 obtain⟨c,hc,-⟩:=h
 exact lt_of_heap hc
theorem IBlk.at{w:World}{g n:Nat}{l:List Int}(h:IBlk w g n l)(i:Nat)(hi:i<l.length):w.cell? ⟨g,i,none⟩=some (.int .i64 l[i]):=by
 obtain⟨c,hc,hs,hl,hx⟩:=h
 rw[cell_of_row w g _ _ _ _ hc]
 exact hx i hi
theorem IBlk.ints{w:World}{g n:Nat}{l:List Int}(h:IBlk w g n l):Ints w.heap.size w (some ⟨g,0,none⟩) l:=
 .inr ⟨g,0,rfl,h.lt,fun i hi=>by rw[Nat.zero_add];exact h.at i hi⟩
theorem IBlk.of_block{w w':World}{g n:Nat}{l:List Int}(h:IBlk w g n l)(e:w'.heap[g]? =w.heap[g]?):IBlk w' g n l:=by
 obtain⟨c,hc,r⟩:=h
 exact⟨c,e.trans hc,r⟩
theorem IBlk.keep{B:Nat}{w w':World}{g n:Nat}{l:List Int}(h:IBlk w g n l)(hb:Below B w w')(hg:g<B):IBlk w' g n l:=h.of_block (hb.block g hg)
theorem IBlk.frozen{w:World}{g n:Nat}{l:List Int}(h:IBlk w g n l)(j:Nat):w.frozen? ⟨g,j,none⟩=false:=by
 obtain⟨c,hc,-⟩:=h
 exact frozen_of_row w g j _ _ hc
theorem IBlk.some{w:World}{g n:Nat}{l:List Int}(h:IBlk w g n l)(j:Nat)(hj:j<n):∃v,w.cell? ⟨g,j,none⟩=some v:=by
 obtain⟨c,hc,hs,-⟩:=h
 rw[cell_of_row w g j _ _ _ hc]
 exact⟨c[j]'(by omega),Array.getElem?_eq_getElem (by omega)⟩
theorem IBlk.put{w:World}{g n:Nat}{l:List Int}(h:IBlk w g n l)(v:Int)(hl:l.length<n):IBlk (w.setCell ⟨g,l.length,none⟩ (.int .i64 v)) g n (l++[v]):=by
 obtain⟨c,hc,hs,_,hx⟩:=h
 refine⟨c.setIfInBounds l.length (.int .i64 v),heap_setCell_same _ g _ _ _ _ hc,by simpa using hs,by simp;omega,fun i hi=> ?_⟩
 simp at hi
 by_cases he:i<l.length
 ·rw[List.getElem_append_left he,Array.getElem?_setIfInBounds,if_neg (by omega)]
  exact hx i he
 ·obtain rfl:i=l.length:=by omega
  rw[List.getElem_append_right (Nat.le_refl _),Array.getElem?_setIfInBounds,if_pos rfl,if_pos (by omega)]
  simp
theorem Tryz.infoInt:(Tryz.prog.info? 3).map (fun i=>(i.zero,i.size,i.bytes))=some (some (.int .i64 0),1,8):=by kernel_rfl
theorem Tryz.infoNode:(Tryz.prog.info? 57).map (fun i=>(i.zero,i.size,i.bytes))=some (some (.agg #[.int .i64 0,.int .i64 0,.string ⟨#[]⟩,.string ⟨#[]⟩,.slice none 0 0]),5,72):=by kernel_rfl
theorem make_ints(n:Nat)(hn:n≤1048576)(w:World):
  (Instr.makeSlice 55 (.int .i64 (n:Int)) (.int .i64 (n:Int))).run Tryz.prog w= .ok (.slice (some ⟨w.heap.size,0,none⟩) n n) (w.alloc (.cells (madeCells #[.int .i64 0] n) 3)):=by
 obtain⟨i,hi,hz⟩:=Option.map_eq_some_iff.1 Tryz.infoInt
 simp only[Prod.mk.injEq]at hz
 obtain⟨e,hs,hb⟩:=hz
 have:=run_make (P:=Tryz.prog) w 55 3 i _ Tryz.underlying55 hi e .i64 .i64 n n (by omega) (Int.le_refl _) (by rw[hb];omega) (by omega)
 rw[hs,Nat.mul_one]at this
 exact this
theorem IBlk.made(w:World)(n:Nat):IBlk (w.alloc (.cells (madeCells #[.int .i64 0] n) 3)) w.heap.size n []:=
 ⟨_,heap_alloc_new w _,by simp[madeCells],by simp,fun i hi=>by simp at hi⟩
def RelTi(B:Nat)(W:World)(l:List Int)(i:Value)(wr:World):Prop:=
 ∃I:Nat,I≤l.length∧i= .int .i64 (I:Int)∧Below B W wr∧IBlk wr B l.length (l.take I)
def Kid(B:Nat)(w:World)(g r:Nat)(v:Value)(l:List Int):Prop:=
 ∃a cap,v= .slice a l.length cap∧(l=[]∨a=some ⟨r,0,none⟩∧IBlk w r cap l∧B≤r∧r≠g)
theorem Kid.keep{B B':Nat}{w w':World}{g r:Nat}{v:Value}{l:List Int}(h:Kid B w g r v l)(hb:Below B' w w')(hg:w.heap.size≤B'):Kid B w' g r v l:=by
 obtain⟨a,cap,e,h⟩:=h
 refine⟨a,cap,e,h.imp id ?_⟩
 rintro⟨e1,e2,e3⟩
 exact⟨e1,e2.keep hb (Nat.lt_of_lt_of_le e2.lt hg),e3⟩
theorem Kid.ints{B:Nat}{w:World}{g r:Nat}{v:Value}{l:List Int}(h:Kid B w g r v l):∃a cap,v= .slice a l.length cap∧Ints w.heap.size w a l:=by
 obtain⟨a,cap,e,h⟩:=h
 refine⟨a,cap,e, ?_⟩
 rcases h with h|⟨rfl,h,_⟩
 ·exact .inl h
 ·exact h.ints
def C5(c:Array Value)(i:Nat)(n:Nd)(v:Value):Prop:=
 c[i*5]? =some (.int .i64 n.k)∧c[i*5+1]? =some (.int .i64 n.op)∧c[i*5+2]? =some (.string n.s)∧c[i*5+3]? =some (.string n.t)∧c[i*5+4]? =some v
def Tr(B:Nat)(w:World)(g n:Nat)(l:List Nd)(r:Nat→Nat):Prop:=
 (∃c:Array Value,w.heap[g]? =some (.cells c 57 (0,0))∧c.size=n*5∧l.length≤n∧∀i (h:i<l.length),∃v,C5 c i l[i] v∧Kid B w g (r i) v l[i].kids)∧
  (∀i j,i<j→j<l.length→r i≠r j)∧∀i,i<l.length→r i<w.heap.size
theorem Tr.lt{B:Nat}{w:World}{g n:Nat}{l:List Nd}{r:Nat→Nat}(h:Tr B w g n l r):g<w.heap.size:=by
 obtain⟨⟨c,hc,-⟩,-⟩:=h
 exact lt_of_heap hc
theorem Tr.keep{B B':Nat}{w w':World}{g n:Nat}{l:List Nd}{r:Nat→Nat}(h:Tr B w g n l r)(hb:Below B' w w')(hg:w.heap.size≤B'):Tr B w' g n l r:=by
 have hlt:=h.lt
 obtain⟨⟨c,hc,hs,hl,hx⟩,ha,hr⟩:=h
 refine⟨⟨c,(hb.block g (Nat.lt_of_lt_of_le hlt hg)).trans hc,hs,hl,fun i hi=> ?_⟩,ha,fun i hi=>Nat.lt_of_lt_of_le (hr i hi) hb.size⟩
 obtain⟨v,h5,hk⟩:=hx i hi
 exact⟨v,h5,hk.keep hb hg⟩
theorem Tr.lies{B:Nat}{w:World}{g n:Nat}{l:List Nd}{r:Nat→Nat}(h:Tr B w g n l r):Lies w.heap.size w (some ⟨g,0,none⟩) l:=by
 have hlt:=h.lt
 obtain⟨⟨c,hc,hs,hl,hx⟩,ha⟩:=h
 refine .inr ⟨g,0,rfl,hlt,fun i hi=> ?_⟩
 obtain⟨v,⟨h0,h1,h2,h3,h4⟩,hk⟩:=hx i hi
 obtain⟨a,cap,rfl,hI⟩:=hk.ints
 refine⟨a,cap, ?_,hI⟩
 rw[Nat.zero_add]
 exact⟨by rw[cell_of_row w g _ _ _ _ hc];exact h0,by rw[cell_of_row w g _ _ _ _ hc];exact h1,by rw[cell_of_row w g _ _ _ _ hc];exact h2,by rw[cell_of_row w g _ _ _ _ hc];exact h3,by rw[cell_of_row w g _ _ _ _ hc];exact h4⟩
theorem Tr.frozen{B:Nat}{w:World}{g n:Nat}{l:List Nd}{r:Nat→Nat}(h:Tr B w g n l r)(j:Nat):w.frozen? ⟨g,j,none⟩=false:=by
 obtain⟨⟨c,hc,-⟩,-⟩:=h
 exact frozen_of_row w g j _ _ hc
theorem Tr.some{B:Nat}{w:World}{g n:Nat}{l:List Nd}{r:Nat→Nat}(h:Tr B w g n l r)(j:Nat)(hj:j<n*5):∃v,w.cell? ⟨g,j,none⟩=some v:=by
 obtain⟨⟨c,hc,hs,-⟩,-⟩:=h
 rw[cell_of_row w g j _ _ _ hc]
 exact⟨c[j]'(by omega),Array.getElem?_eq_getElem (by omega)⟩
theorem Tr.made(B:Nat)(w:World)(n:Nat)(r:Nat→Nat):Tr B (w.alloc (.cells (madeCells #[.int .i64 0,.int .i64 0,.string ⟨#[]⟩,.string ⟨#[]⟩,.slice none 0 0] (n*5)) 57)) w.heap.size n [] r:=
 ⟨⟨_,heap_alloc_new w _,by simp[madeCells],by simp,fun i hi=>by simp at hi⟩,fun i j _ hj=>by simp at hj,fun i hi=>by simp at hi⟩
def put5(w:World)(g o:Nat)(k op:Int)(s t:ByteArray)(v:Value):World:=
 ((((w.setCell ⟨g,o,none⟩ (.int .i64 k)).setCell ⟨g,o+1,none⟩ (.int .i64 op)).setCell ⟨g,o+2,none⟩ (.string s)).setCell ⟨g,o+3,none⟩ (.string t)).setCell ⟨g,o+4,none⟩ v
theorem put5_block(w:World)(g o k:Nat)(x y:Int)(s t:ByteArray)(v:Value)(h:k≠g):(put5 w g o x y s t v).heap[k]? =w.heap[k]? :=by
 unfold put5
 rw[heap_setCell_other _ _ k _ h,heap_setCell_other _ _ k _ h,heap_setCell_other _ _ k _ h,heap_setCell_other _ _ k _ h,heap_setCell_other _ _ k _ h]
theorem put5_size(w:World)(g o:Nat)(x y:Int)(s t:ByteArray)(v:Value):(put5 w g o x y s t v).heap.size=w.heap.size:=by
 unfold put5;simp
theorem c5_put{c:Array Value}{K:Nat}(n:Nd)(v:Value)(h:K*5+4<c.size):
  C5 (((((c.setIfInBounds (K*5) (.int .i64 n.k)).setIfInBounds (K*5+1) (.int .i64 n.op)).setIfInBounds (K*5+2) (.string n.s)).setIfInBounds (K*5+3) (.string n.t)).setIfInBounds (K*5+4) v) K n v:=by
 unfold C5
 simp only[Array.getElem?_setIfInBounds,Array.size_setIfInBounds]
 refine⟨?_, ?_, ?_, ?_, ?_⟩
 ·rw[if_neg (by omega),if_neg (by omega),if_neg (by omega),if_neg (by omega),if_pos trivial,if_pos (by omega)]
 ·rw[if_neg (by omega),if_neg (by omega),if_neg (by omega),if_pos trivial,if_pos (by omega)]
 ·rw[if_neg (by omega),if_neg (by omega),if_pos trivial,if_pos (by omega)]
 ·rw[if_neg (by omega),if_pos trivial,if_pos (by omega)]
 ·rw[if_pos trivial,if_pos (by omega)]
theorem c5_other{c:Array Value}{K i:Nat}{m:Nd}{u:Value}(n:Nd)(v:Value)(hi:i≠K)(h:C5 c i m u):
  C5 (((((c.setIfInBounds (K*5) (.int .i64 n.k)).setIfInBounds (K*5+1) (.int .i64 n.op)).setIfInBounds (K*5+2) (.string n.s)).setIfInBounds (K*5+3) (.string n.t)).setIfInBounds (K*5+4) v) i m u:=by
 obtain⟨h0,h1,h2,h3,h4⟩:=h
 unfold C5
 simp only[Array.getElem?_setIfInBounds,Array.size_setIfInBounds]
 refine⟨?_, ?_, ?_, ?_, ?_⟩
 ·rw[if_neg (by omega),if_neg (by omega),if_neg (by omega),if_neg (by omega),if_neg (by omega)];exact h0
 ·rw[if_neg (by omega),if_neg (by omega),if_neg (by omega),if_neg (by omega),if_neg (by omega)];exact h1
 ·rw[if_neg (by omega),if_neg (by omega),if_neg (by omega),if_neg (by omega),if_neg (by omega)];exact h2
 ·rw[if_neg (by omega),if_neg (by omega),if_neg (by omega),if_neg (by omega),if_neg (by omega)];exact h3
 ·rw[if_neg (by omega),if_neg (by omega),if_neg (by omega),if_neg (by omega),if_neg (by omega)];exact h4
theorem put5_heap{w:World}{g:Nat}{c:Array Value}{e:TypeId}(K:Nat)(n:Nd)(v:Value)(hc:w.heap[g]? =some (.cells c e (0,0))):
  (put5 w g (K*5) n.k n.op n.s n.t v).heap[g]? =some (.cells (((((c.setIfInBounds (K*5) (.int .i64 n.k)).setIfInBounds (K*5+1) (.int .i64 n.op)).setIfInBounds (K*5+2) (.string n.s)).setIfInBounds (K*5+3) (.string n.t)).setIfInBounds (K*5+4) v) e (0,0)):=by
 unfold put5
 exact heap_setCell_same _ g _ _ _ _ (heap_setCell_same _ g _ _ _ _ (heap_setCell_same _ g _ _ _ _ (heap_setCell_same _ g _ _ _ _ (heap_setCell_same _ g _ _ _ _ hc))))
theorem Tr.put{B:Nat}{w:World}{g n b:Nat}{l:List Nd}{r:Nat→Nat}{v:Value}(h:Tr B w g n l r)(t:Nd)(hl:l.length<n)(hk:Kid B w g b v t.kids)(hb:∀i,i<l.length→r i≠b)(hbw:b<w.heap.size):
  Tr B (put5 w g (l.length*5) t.k t.op t.s t.t v) g n (l++[t]) (fun i=>if i<l.length then r i else b):=by
 obtain⟨⟨c,hc,hs,_,hx⟩,ha,hr⟩:=h
 have keepk:∀{r':Nat} {u:Value} {m:List Int},Kid B w g r' u m→Kid B (put5 w g (l.length*5) t.k t.op t.s t.t v) g r' u m:=by
  rintro r' u m ⟨a,cap,e,h⟩
  refine⟨a,cap,e,h.imp id ?_⟩
  rintro⟨e1,e2,e3,e4⟩
  exact⟨e1,e2.of_block (put5_block _ _ _ _ _ _ _ _ _ e4),e3,e4⟩
 refine⟨⟨_,put5_heap l.length t v hc,by simpa using hs,by simp;omega,fun i hi=> ?_⟩,fun i j hij hj=> ?_,fun i hi=> ?_⟩
 ·simp at hi
  by_cases he:i<l.length
  ·obtain⟨u,h5,hk'⟩:=hx i he
   simp only[List.getElem_append_left he,if_pos he]
   exact⟨u,c5_other t v (by omega) h5,keepk hk'⟩
  ·obtain rfl:i=l.length:=by omega
   simp only[List.getElem_append_right (Nat.le_refl _),Nat.sub_self,List.getElem_cons_zero,if_neg (Nat.lt_irrefl _)]
   exact⟨v,c5_put t v (by omega),keepk hk⟩
 ·simp at hj
  by_cases he:j<l.length
  ·simp only[if_pos he,if_pos (Nat.lt_trans hij he)]
   exact ha i j hij he
  ·simp only[if_neg he,if_pos (show i<l.length by omega)]
   exact hb i (by omega)
 ·simp at hi
  rw[put5_size]
  by_cases he:i<l.length
  ·simp only[if_pos he];exact hr i he
  ·simp only[if_neg he];exact hbw
theorem below_three(w:World)(a b c:Obj):Below w.heap.size w (((w.alloc a).alloc b).alloc c):=(((Below.refl _ _).alloc (Nat.le_refl _) _).alloc (by simp) _).alloc (by simp;omega) _
def RelTo(B:Nat)(W:World)(l:List Nd)(i:Value)(wr:World):Prop:=
 ∃(I:Nat) (r:Nat→Nat),I≤l.length∧i= .int .i64 (I:Int)∧Below B W wr∧Tr B wr B l.length (l.take I) r
end Go.Proofs.YtnoagleifffkcaaGreatDoor.nd

namespace Go.Proofs.YtnoagleifffkcaaGreatDoor.nd
open Go.RowKit
set_option linter.unusedVariables false
def ivals(l:List Int):List Value:=l.map (Value.int .i64)
theorem ivals_len(l:List Int):(ivals l).length=l.length:=by simp[ivals]
theorem ivals_snoc(l:List Int)(v:Int):ivals (l++[v])=ivals l++[.int .i64 v]:=by simp[ivals]
def OwnI(B:Nat)(v:Value)(l:List Int)(w:World):Prop:=w.ownsRow B 3 1 v l.length (ivals l)
theorem OwnI.nil(B:Nat)(w:World):OwnI B (.slice none 0 0) [] w:=World.ownsRow_nil _ _ _ _
theorem OwnI.lit{B:Nat}{w:World}(hB:B≤w.heap.size):OwnI B (.slice (some ⟨w.heap.size,0,none⟩) 0 0) [] (w.alloc (.cells #[] 3)):=
 World.ownsRow_lit w #[] 0 hB (by unfold maxLen;omega) rfl
theorem OwnI.form{B:Nat}{v:Value}{l:List Int}{w:World}(h:OwnI B v l w):∃a cap,v= .slice a l.length cap:=by
 rcases h.2 with ⟨hv,h0⟩|⟨g,cap,_,hv,_⟩
 ·exact⟨none,0,by rw[hv,h0]⟩
 ·exact⟨_,_,hv⟩
theorem OwnI.up{B B':Nat}{v:Value}{l:List Int}{w:World}(h:OwnI B v l w)(hB:B'≤B):OwnI B' v l w:=
 ⟨h.1,h.2.elim .inl (fun⟨g,cap,cur,hv,hg,r⟩=> .inr ⟨g,cap,cur,hv,Nat.le_trans hB hg,r⟩)⟩
theorem OwnI.keep{B B':Nat}{v:Value}{l:List Int}{w w':World}(h:OwnI B v l w)(hb:Below B' w w')(hB:w.heap.size≤B'):OwnI B v l w':=by
 refine⟨h.1,h.2.elim .inl (fun⟨g,cap,cur,hv,hg,hblk,r⟩=> .inr ⟨g,cap,cur,hv,hg, ?_,r⟩)⟩
 rw[hb.block g (Nat.lt_of_lt_of_le (lt_of_heap hblk) hB)]
 exact hblk
theorem OwnI.blk{B:Nat}{v:Value}{l:List Int}{w:World}(h:OwnI B v l w):v= .slice none 0 0∧l=[]∨∃g cap,v= .slice (some ⟨g,0,none⟩) l.length cap∧B≤g∧IBlk w g cap l:=by
 rcases h.2 with ⟨hv,h1⟩|⟨g,cap,cur,hv,hg,hblk,hl,hcm,hcs,htk⟩
 ·exact .inl ⟨hv,List.length_eq_zero_iff.1 h1⟩
 ·refine .inr ⟨g,cap,hv,hg,cur,hblk,by simpa using hcs,hl,fun i hi=> ?_⟩
  have hj:(ivals l)[i]? =some (.int .i64 l[i]):=by simp[ivals,hi]
  rw[←htk,List.getElem?_take]at hj
  split at hj
  ·simpa using hj
  ·cases hj
theorem OwnI.ints{B:Nat}{a:Option Addr}{n cap:Nat}{l:List Int}{w:World}(h:OwnI B (.slice a n cap) l w):Ints w.heap.size w a l:=by
 rcases h.blk with ⟨_,h1⟩|⟨g,c,hv,_,h1⟩
 ·exact .inl h1
 ·injection hv with hv _ _
  subst hv
  exact IBlk.ints h1
theorem wpList_append_int(w:World)(z:Int){ops:Array Oper}{rest:List Oper}{o:Oper}{a:Act}{Q:Exit→Act→World→Prop}(hgd:o.guard=none)(s x:Operand)
  (ho:o.op= .call {callee:= .builtin .append,args:= #[s,x],argTypes:= #[55,55]}) (B:Nat) (v:Value) (d:List Int) (hs:a.eval s=v)
  (hown:OwnI B v d w) (hx:a.eval x= .slice (some ⟨w.heap.size,0,none⟩) 1 1) (hn:d.length≤1048576) (hB:B≤w.heap.size)
  (h:∀v' w',OwnI B v' (d++[z]) w'→Below B w w'→w.grownBy w' v.ownBlock→wpList Tryz.prog ops Q rest (a.put o.dst v') w'):
  wpList Tryz.prog ops Q (o::rest) a (w.alloc (.cells #[.int .i64 z] 3)):=by
 obtain⟨i0,hi,y,F,e⟩:=info_parts Tryz.infoInt
 refine wpList_append_own _ hgd s x 55 ho B 3 i0 _ 1 8 Tryz.underlying55 hi y F e rfl (by decide) v d.length (ivals d) hs (hown.alloc _) ⟨w.heap.size,0,none⟩ 1 1 [.int .i64 z] hx rfl ?_ ?_ (by unfold maxLen;omega) (by omega) (by simp;omega) ?_
 ·intro j u hj
  rw[show((⟨w.heap.size,0,none⟩:Addr).add j)=⟨w.heap.size,j,none⟩ by unfold Addr.add;split<;>simp_all]
  rw[cell_of_row _ w.heap.size j _ _ _ (heap_alloc_new w _)]
  simpa using hj
 ·intro u hu
  simp at hu
  rcases hu with rfl<;>rfl
 ·intro v' w' hown' hg _
  refine h v' w' ?_ ?_ ?_
  ·unfold OwnI
   rw[ivals_snoc,List.length_append]
   exact hown'
  ·refine((Below.refl B w).alloc hB _).grown hg (by simp;omega) ?_
   intro k hk
   exact(World.ownsRow.lt hown k hk).1
  ·exact⟨hg.os,hg.tape,hg.output,by have:=hg.size;simp at this;omega,fun k hk hne=>by rw[hg.block k (by simp;omega) hne];exact Below.heap_alloc w _ k hk⟩
end Go.Proofs.YtnoagleifffkcaaGreatDoor.nd

namespace Go.Proofs.YtnoagleifffkcaaGreatDoor.nd
open Go.RowKit
set_option linter.unusedVariables false
set_option maxRecDepth 20000
theorem step_append_int{ops:Array Oper}{o:Oper}{a:Act}{w:World}{K:Act→World→Prop}{Q:Exit→Act→World→Prop}{E:Prop}(hgd:o.guard=none)(s x:Operand)
  (ho:o.op= .call {callee:= .builtin .append,args:= #[s,x],argTypes:= #[55,55]}) (B:Nat) (v:Value) (d:List Int) (z:Int) (hs:a.eval s=v)
  (hown:OwnI B v d w) (gz:Nat) (hx:a.eval x= .slice (some ⟨gz,0,none⟩) 1 1) (hz:w.heap[gz]? =some (.cells #[.int .i64 z] 3 (0,0))) (hn:d.length≤1048576) (hB:B≤w.heap.size)
  (h:∀g cap w',OwnI B (.slice (some ⟨g,0,none⟩) (d.length+1) cap) (d++[z]) w'→Below B w w'→K (a.put o.dst (.slice (some ⟨g,0,none⟩) (d.length+1) cap)) w'):
  if Region.wanted o (yielded ops a.tmps)=true then Oper.wp Tryz.prog o a w K Q else E:=by
 obtain⟨i0,hi,y,F,e⟩:=info_parts Tryz.infoInt
 refine step_append_lies w hgd s x 55 ho B 3 i0 _ 1 8 Tryz.underlying55 hi y F e rfl (by decide) v d.length (ivals d) hs hown ⟨gz,0,none⟩ 1 1 [.int .i64 z] hx rfl ?_ ?_ (by decide) (by unfold maxLen;omega) (by omega) hB _ rfl ?_
 ·intro j u hj
  rw[show((⟨gz,0,none⟩:Addr).add j)=⟨gz,j,none⟩ by unfold Addr.add;split<;>simp_all]
  rw[cell_of_row _ gz j _ _ _ hz]
  simpa using hj
 ·intro u hu
  simp at hu
  rcases hu with rfl<;>rfl
 ·intro g cap w' hown' hg _ _
  refine h g cap w' ?_ ?_
  ·unfold OwnI
   rw[ivals_snoc,List.length_append]
   exact hown'
  ·refine(Below.refl B w).grown hg hB ?_
   intro k hk
   exact(World.ownsRow.lt hown k hk).1
def fl:List (Nd×Value)→List Value
 |[]=>[]
 |(n,v)::l=> .int .i64 n.k:: .int .i64 n.op:: .string n.s:: .string n.t::v::fl l
theorem fl_append(l m:List (Nd×Value)):fl (l++m)=fl l++fl m:=by
 induction l with
 |nil=>rfl
 |cons t l ih=>obtain⟨n,v⟩:=t;simp[fl,ih]
theorem fl_snoc(l:List (Nd×Value))(n:Nd)(v:Value):fl (l++[(n,v)])=fl l++[.int .i64 n.k,.int .i64 n.op,.string n.s,.string n.t,v]:=by
 rw[fl_append];rfl
theorem fl_get:∀(l:List (Nd×Value)) (i:Nat) (h:i<l.length),(fl l)[i*5]? =some (.int .i64 l[i].1.k)∧(fl l)[i*5+1]? =some (.int .i64 l[i].1.op)∧(fl l)[i*5+2]? =some (.string l[i].1.s)∧(fl l)[i*5+3]? =some (.string l[i].1.t)∧(fl l)[i*5+4]? =some l[i].2:=by
 intro l
 induction l with
 |nil=>intro i h;simp at h
 |cons t l ih=>
  obtain⟨n,v⟩:=t
  intro i h
  match i with
  |0=>exact⟨rfl,rfl,rfl,rfl,rfl⟩
  |j+1=>
   have:=ih j (by simpa using h)
   simp only[fl,show(j+1)*5=j*5+1+1+1+1+1 by omega,show j*5+1+1+1+1+1+1=(j*5+1)+1+1+1+1+1 by omega,show j*5+1+1+1+1+1+2=(j*5+2)+1+1+1+1+1 by omega,show j*5+1+1+1+1+1+3=(j*5+3)+1+1+1+1+1 by omega,show j*5+1+1+1+1+1+4=(j*5+4)+1+1+1+1+1 by omega,List.getElem?_cons_succ,List.getElem_cons_succ]
   exact this
def OwnN(B:Nat)(v:Value)(z:List (Nd×Value))(w:World):Prop:=w.ownsRow B 57 5 v z.length (fl z)
def KidV(B:Nat)(w:World)(r:Nat)(v:Value)(l:List Int):Prop:=
 (v= .slice none 0 0∧l=[])∨∃cap,v= .slice (some ⟨r,0,none⟩) l.length cap∧IBlk w r cap l∧B≤r∧cap≤maxLen
theorem KidV.form{B:Nat}{w:World}{r:Nat}{v:Value}{l:List Int}(h:KidV B w r v l):∃a cap,v= .slice a l.length cap∧(l=[]∨a=some ⟨r,0,none⟩∧IBlk w r cap l∧B≤r):=by
 rcases h with ⟨h1,h2⟩|⟨cap,h1,h2,h3,_⟩
 ·exact⟨none,0,by rw[h1,h2];rfl,.inl h2⟩
 ·exact⟨_,cap,h1,.inr ⟨rfl,h2,h3⟩⟩
theorem KidV.keep{B:Nat}{w w':World}{r:Nat}{v:Value}{l:List Int}(h:KidV B w r v l)(e:w'.heap[r]? =w.heap[r]?):KidV B w' r v l:=by
 rcases h with h|⟨cap,e1,e2,e3⟩
 ·exact .inl h
 ·exact .inr ⟨cap,e1,e2.of_block e,e3⟩
theorem OwnI.blkM{B:Nat}{v:Value}{l:List Int}{w:World}(h:OwnI B v l w):v= .slice none 0 0∧l=[]∨∃g cap,v= .slice (some ⟨g,0,none⟩) l.length cap∧B≤g∧IBlk w g cap l∧cap≤maxLen:=by
 rcases h.blk with h1|⟨g,cap,rfl,hg,hb⟩
 ·exact .inl h1
 ·rcases h.2 with ⟨hv,_⟩|⟨g',cap',cur,hv,_,_,_,hm,_⟩
  ·cases hv
  ·injection hv with _ _ hv
   exact .inr ⟨g,cap,rfl,hg,hb,by rw[hv];exact hm⟩
theorem KidV.own{B:Nat}{w:World}{r:Nat}{v:Value}{l:List Int}(h:KidV B w r v l):OwnI B v l w:=by
 rcases h with ⟨rfl,rfl⟩|⟨cap,rfl,⟨c,hc,hs,hl,hx⟩,hB,hm⟩
 ·exact OwnI.nil B w
 ·refine⟨by rw[ivals_len];omega,.inr ⟨r,cap,c,rfl,hB,hc,hl,hm,by omega, ?_⟩⟩
  refine List.ext_getElem? (fun i=> ?_)
  rw[List.getElem?_take,Nat.mul_one]
  by_cases hi:i<l.length
  ·rw[if_pos hi]
   have:=hx i hi
   simp only[ivals,List.getElem?_map,List.getElem?_eq_getElem hi,Option.map_some]
   simpa using this
  ·rw[if_neg hi]
   simp[ivals,List.getElem?_eq_none (Nat.le_of_not_lt hi)]
theorem KidV.of_own{B:Nat}{w:World}{v:Value}{l:List Int}(h:OwnI B v l w)(S:Nat)(hS:S<w.heap.size)(hB:B≤S)(hup:∀g,v.ownBlock=some g→S≤g):∃r,S≤r∧r<w.heap.size∧KidV B w r v l:=by
 rcases h.blkM with ⟨rfl,rfl⟩|⟨g,cap,rfl,hg,hb,hm⟩
 ·exact⟨S,Nat.le_refl _,hS,.inl ⟨rfl,rfl⟩⟩
 ·exact⟨g,hup g rfl,hb.lt,.inr ⟨cap,rfl,hb,hg,hm⟩⟩
structure PT(B:Nat)(v:Value)(z:List (Nd×Value))(r:Nat→Nat)(w:World):Prop where
 own:OwnN B v z w
 kid:∀i (h:i<z.length),KidV B w (r i) z[i].2 z[i].1.kids
 off:∀i,i<z.length→v.ownBlock≠some (r i)
 asc:∀i j,i<j→j<z.length→r i≠r j
 lt:∀i,i<z.length→r i<w.heap.size
theorem PT.nil(B:Nat)(w:World):PT B (.slice none 0 0) [] (fun i=>i) w:=
 ⟨World.ownsRow_nil _ _ _ _,fun i h=>by simp at h,fun i h=>by simp at h,fun i j _ h=>by simp at h,fun i h=>by simp at h⟩
theorem PT.lit{B:Nat}{w:World}(hB:B≤w.heap.size):PT B (.slice (some ⟨w.heap.size,0,none⟩) 0 0) [] (fun i=>i) (w.alloc (.cells #[] 57)):=
 ⟨World.ownsRow_lit w #[] 0 hB (by unfold maxLen;omega) rfl,fun i h=>by simp at h,fun i h=>by simp at h,fun i j _ h=>by simp at h,fun i h=>by simp at h⟩
theorem PT.form{B:Nat}{v:Value}{z:List (Nd×Value)}{r:Nat→Nat}{w:World}(h:PT B v z r w):∃a cap,v= .slice a z.length cap:=by
 rcases h.own.2 with ⟨hv,h0⟩|⟨g,cap,cur,hv,_⟩
 ·exact⟨none,0,by rw[hv,h0]⟩
 ·exact⟨_,_,hv⟩
theorem PT.keep{B B':Nat}{v:Value}{z:List (Nd×Value)}{r:Nat→Nat}{w w':World}(h:PT B v z r w)(hb:Below B' w w')(hB:w.heap.size≤B'):PT B v z r w':=by
 obtain⟨h1,h2,h3,h4,h5⟩:=h
 refine⟨⟨h1.1,h1.2.elim .inl (fun⟨g,cap,cur,hv,hg,hblk,r⟩=> .inr ⟨g,cap,cur,hv,hg, ?_,r⟩)⟩,fun i hi=>(h2 i hi).keep (hb.block _ (Nat.lt_of_lt_of_le (h5 i hi) hB)),h3,h4,fun i hi=>Nat.lt_of_lt_of_le (h5 i hi) hb.size⟩
 rw[hb.block g (Nat.lt_of_lt_of_le (lt_of_heap hblk) hB)]
 exact hblk
theorem PT.tr{B:Nat}{v:Value}{z:List (Nd×Value)}{r:Nat→Nat}{w:World}(h:PT B v z r w):(v= .slice none 0 0∧z=[])∨∃g cap,v= .slice (some ⟨g,0,none⟩) z.length cap∧B≤g∧Tr B w g cap (z.map (·.1)) r:=by
 have hoff:=h.off
 rcases h.own.2 with ⟨hv,h1⟩|⟨g,cap,cur,hv,hg,hblk,hl,hcm,hcs,htk⟩
 ·exact .inl ⟨hv,List.length_eq_zero_iff.1 h1⟩
 ·refine .inr ⟨g,cap,hv,hg,⟨cur,hblk,hcs,by simpa using hl,fun i hi=> ?_⟩,fun i j hij hj=>h.asc i j hij (by simpa using hj),fun i hi=>h.lt i (by simpa using hi)⟩
  have hi':i<z.length:=by simpa using hi
  have hc:∀(j:Nat) (u:Value),(fl z)[j]? =some u→cur[j]? =some u:=by
   intro j u hj
   rw[←htk,List.getElem?_take]at hj
   split at hj
   ·simpa using hj
   ·cases hj
  obtain⟨x0,x1,x2,x3,x4⟩:=fl_get z i hi'
  refine⟨z[i].2,⟨by simpa using hc _ _ x0,by simpa using hc _ _ x1,by simpa using hc _ _ x2,by simpa using hc _ _ x3,hc _ _ x4⟩, ?_⟩
  obtain⟨a,c2,e0,hk⟩:=(h.kid i hi').form
  simp only[List.getElem_map]
  refine⟨a,c2,e0,hk.imp id ?_⟩
  rintro⟨e1,e2,e3⟩
  refine⟨e1,e2,e3,fun e=>hoff i hi' ?_⟩
  rw[hv,e]
  rfl
theorem PT.lies{B:Nat}{z:List (Nd×Value)}{r:Nat→Nat}{w:World}{a:Option Addr}{n cap:Nat}(h:PT B (.slice a n cap) z r w):Lies w.heap.size w a (z.map (·.1)):=by
 rcases h.tr with ⟨_,h1⟩|⟨g,c,hv,_,h1⟩
 ·exact .inl (by rw[h1];rfl)
 ·injection hv with hv _ _
  subst hv
  exact Tr.lies h1
theorem wpList_append_node(w:World)(t:Nd)(u:Value){ops:Array Oper}{rest:List Oper}{o:Oper}{a:Act}{Q:Exit→Act→World→Prop}(hgd:o.guard=none)(s x:Operand)
  (ho:o.op= .call {callee:= .builtin .append,args:= #[s,x],argTypes:= #[24,24]}) (B:Nat) (v:Value) (d:List (Nd×Value)) (r:Nat→Nat) (b:Nat) (hs:a.eval s=v)
  (hown:PT B v d r w) (hx:a.eval x= .slice (some ⟨w.heap.size,0,none⟩) 1 1) (hu:u.oneCell'=true) (hn:d.length≤1048576) (hB:B≤w.heap.size)
  (hk:KidV B w b u t.kids) (hb:∀i,i<d.length→r i≠b) (hbw:b<w.heap.size) (hoff:v.ownBlock≠some b)
  (h:∀v' r' w',PT B v' (d++[(t,u)]) r' w'→Below B w w'→(∀i,i<d.length→r' i=r i)→r' d.length=b→wpList Tryz.prog ops Q rest (a.put o.dst v') w'):
  wpList Tryz.prog ops Q (o::rest) a (w.alloc (.cells #[.int .i64 t.k,.int .i64 t.op,.string t.s,.string t.t,u] 57)):=by
 obtain⟨i0,hi,F,G,y⟩:=info_parts Tryz.infoNode
 refine wpList_append_lies _ hgd s x 24 ho B 57 i0 _ 5 72 Tryz.underlying24 hi F G y rfl (by decide) v d.length (fl d) hs (hown.own.alloc _) ⟨w.heap.size,0,none⟩ 1 1 [.int .i64 t.k,.int .i64 t.op,.string t.s,.string t.t,u] hx rfl ?_ ?_ (by decide) (by unfold maxLen;omega) (by omega) (by simp;omega) (w.heap.size+1) (by simp) ?_
 ·intro j q hj
  rw[show((⟨w.heap.size,0,none⟩:Addr).add j)=⟨w.heap.size,j,none⟩ by unfold Addr.add;split<;>simp_all]
  rw[cell_of_row _ w.heap.size j _ _ _ (heap_alloc_new w _)]
  simpa using hj
 ·intro q hq
  simp at hq
  rcases hq with rfl|rfl|rfl|rfl|rfl
  ·rfl
  ·rfl
  ·rfl
  ·rfl
  ·exact hu
 ·intro g cap w' hown' hg hor _
  have hsz:=hg.size
  simp at hsz
  have hkeep:∀k,k<w.heap.size→v.ownBlock≠some k→w'.heap[k]? =w.heap[k]? :=fun k hk hne=>by
   rw[hg.block k (by simp;omega) (fun e=>hne e.symm)];exact Below.heap_alloc w _ k hk
  have hgne:∀k,k<w.heap.size→v.ownBlock≠some k→g≠k:=fun k hk hne e=>by
   rcases hor with e2|e2
   ·exact hne (by rw[e2,e])
   ·omega
  refine h _ (fun i=>if i<d.length then r i else b) w' ⟨?_,fun i hi=> ?_,fun i hi=> ?_,fun i j hij hj=> ?_,fun i hi=> ?_⟩ ?_ (fun i hi=>if_pos hi) (if_neg (Nat.lt_irrefl _))
  ·unfold OwnN
   rw[fl_snoc,List.length_append]
   exact hown'
  ·simp at hi
   by_cases he:i<d.length
   ·simp only[List.getElem_append_left he,if_pos he]
    exact(hown.kid i he).keep (hkeep _ (hown.lt i he) (hown.off i he))
   ·obtain rfl:i=d.length:=by omega
    simp only[List.getElem_append_right (Nat.le_refl _),Nat.sub_self,List.getElem_cons_zero,if_neg (Nat.lt_irrefl _)]
    exact hk.keep (hkeep _ hbw hoff)
  ·simp at hi
   by_cases he:i<d.length
   ·simp only[if_pos he]
    intro e
    injection e with e
    exact hgne _ (hown.lt i he) (hown.off i he) e
   ·simp only[if_neg he]
    intro e
    injection e with e
    exact hgne _ hbw hoff e
  ·simp at hj
   by_cases he:j<d.length
   ·simp only[if_pos he,if_pos (Nat.lt_trans hij he)]
    exact hown.asc i j hij he
   ·simp only[if_neg he,if_pos (show i<d.length by omega)]
    exact hb i (by omega)
  ·simp at hi
   by_cases he:i<d.length
   ·simp only[if_pos he];have:=hown.lt i he;omega
   ·simp only[if_neg he];omega
  ·refine((Below.refl B w).alloc hB _).grown hg (by simp;omega) ?_
   intro k hk
   exact(World.ownsRow.lt hown.own k hk).1
end Go.Proofs.YtnoagleifffkcaaGreatDoor.nd
