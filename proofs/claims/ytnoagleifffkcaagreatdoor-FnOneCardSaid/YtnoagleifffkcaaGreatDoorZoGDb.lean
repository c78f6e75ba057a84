/-

-/
import Derived.Test.YtnoagleifffkcaaGreatDoorZoGDa
import Derived.Test.YtnoagleifffkcaaGreatDoorZoGMk
namespace Go.Proofs.YtnoagleifffkcaaGreatDoor.draw
open Lib (hid)
open Go.ChangeShapes Go.WideShapes Go.ChangeAt Go.RowKit
open nd
set_option linter.unusedVariables false
abbrev St:=Nat×Int
def strCells(l:List ByteArray):Array Value:=(l.map Value.string).toArray
theorem lt_of_blk{w:World}{g:Nat}{o:Obj}(h:w.heap[g]? =some o):g<w.heap.size:=lt_of_heap h
def pickS(L:List ByteArray)(zs:List Int)(s:St):ByteArray:=L.getD (belowF zs L.length s).1.toNat ⟨#[]⟩
theorem pick_str{B p len cap:Nat}{w:World}{a:Option Addr}{zs:List Int}{s:Nat×Int}(q n:Nat)(L:List ByteArray)(H:In B w p a len cap zs s)(hq:w.heap[q]? =some (.cells (strCells L) 9 (0,0)))(hL:L.length=n)(hn:0<n)(hqp:q≠p)(hn2:n≤1000):
  Calls Tryz.prog 81 #[.pointer (some ⟨p,0,none⟩),.slice (some ⟨q,0,none⟩) n n] w (Out B p a len cap zs (.string (pickS L zs s)) (belowF zs n s).2 w):=by
 have HI:=hid H
 clear H
 have hb:=belowF_bd zs n s (by omega)
 obtain⟨K,hK⟩:∃K:Nat,(belowF zs n s).1=K:=⟨(belowF zs n s).1.toNat,by omega⟩
 have HK:=hid hK
 rw[hK]at hb
 have HQ:=hid hq
 have HP:=hid (show pickS L zs s=L.getD K ⟨#[]⟩ by unfold pickS;rw[hL,hK];rfl)
 clear hq hK
 go_enter Tryz.func81,Tryz.ntmps81
 go_wp2_with fail
 refine(below_any n HI.out).mono ?_
 rintro e w1 ⟨he,I1,G1⟩
 rw[HK.out]at he
 subst he
 have y:=hid I1
 have j:w1.heap[q]? =some (.cells (strCells L) 9 (0,0)):=by
  have hlt:q<w.heap.size:=lt_of_blk HQ.out
  rw[G1.block q hlt (by simpa using hqp)]
  exact HQ.out
 have hKL:K<L.length:=by omega
 have hcell:w1.cell? ⟨q,K,none⟩=some (.string (L.getD K ⟨#[]⟩)):=by
  rw[cell_of_row w1 q K _ _ _ j]
  simp[strCells,hKL]
 obtain⟨z,hz⟩:∃z,z=L.getD K ⟨#[]⟩:=⟨_,rfl⟩
 rw[←hz]at hcell HP
 clear I1 j hz
 go_wp2
 go_ret
 exact⟨by rw[HP.out];rfl,y.out,G1⟩
theorem pick_lit{B p len cap:Nat}{w:World}{a:Option Addr}{zs:List Int}{s:Nat×Int}(n:Nat)(L:List ByteArray)(H:In B w p a len cap zs s)(hL:L.length=n)(hn:0<n)(hn2:n≤1000):
  Calls Tryz.prog 81 #[.pointer (some ⟨p,0,none⟩),.slice (some ⟨w.heap.size,0,none⟩) n n] (w.alloc (.cells (strCells L) 9)) (fun e w'=>Out B p a len cap zs (.string (pickS L zs s)) (belowF zs n s).2 w e w'∧w.heap.size<w'.heap.size):=by
 have hlt:=H.lt
 refine(pick_str w.heap.size n L (H.keep ((Below.refl w.heap.size w).alloc (Nat.le_refl _) _) hlt) (heap_alloc_new w _) hL hn (by omega) hn2).mono ?_
 rintro e w' ⟨he,hI,hG⟩
 exact⟨⟨he,hI,grown_trans (World.grownBy_alloc w _ _) hG⟩,by have:=hG.size;simp at this;omega⟩
def l2WordL:List ByteArray:=[⟨#[120]⟩,⟨#[121]⟩,⟨#[110]⟩,⟨#[105]⟩,⟨#[97,114,114]⟩,⟨#[78,82]⟩,⟨#[70,83]⟩,⟨#[116,111,116,97,108]⟩,⟨#[97,49]⟩,⟨#[95,116]⟩,⟨#[99,111,117,110,116]⟩]
theorem x_l2Word{B p len cap:Nat}{w:World}{a:Option Addr}{zs:List Int}{s:Nat×Int}(H:In B w p a len cap zs s):
  Calls Tryz.prog 130 #[.pointer (some ⟨p,0,none⟩)] w (fun e w'=>Out B p a len cap zs (.string (pickS l2WordL zs s)) (belowF zs 11 s).2 w e w'∧w.heap.size<w'.heap.size):=by
 have HI:=hid H
 clear H
 go_enter Tryz.func130,Tryz.ntmps130
 go_wp2_with fail
 refine(pick_lit 11 l2WordL HI.out rfl (by decide) (by decide)).mono ?_
 rintro e w1 ⟨⟨rfl,I1,G1⟩,Z1⟩
 have j:=hid I1
 clear I1
 go_wp2
 go_ret
 exact⟨⟨rfl,j.out,G1⟩,Z1⟩
def l4NumL:List ByteArray:=[⟨#[48]⟩,⟨#[49]⟩,⟨#[52,50]⟩,⟨#[51,46,53]⟩,⟨#[46,53]⟩,⟨#[55,46]⟩,⟨#[49,101,51]⟩,⟨#[50,69,45,52]⟩,⟨#[49,48,46,50,53,101,43,49]⟩]
theorem x_l4Num{B p len cap:Nat}{w:World}{a:Option Addr}{zs:List Int}{s:Nat×Int}(H:In B w p a len cap zs s):
  Calls Tryz.prog 192 #[.pointer (some ⟨p,0,none⟩)] w (fun e w'=>Out B p a len cap zs (.string (pickS l4NumL zs s)) (belowF zs 9 s).2 w e w'∧w.heap.size<w'.heap.size):=by
 have HI:=hid H
 clear H
 go_enter Tryz.func192,Tryz.ntmps192
 go_wp2_with fail
 refine(pick_lit 9 l4NumL HI.out rfl (by decide) (by decide)).mono ?_
 rintro e w1 ⟨⟨rfl,I1,G1⟩,Z1⟩
 have j:=hid I1
 clear I1
 go_wp2
 go_ret
 exact⟨⟨rfl,j.out,G1⟩,Z1⟩
def l4StrL:List ByteArray:=[⟨#[34,34]⟩,⟨#[34,97,34]⟩,⟨#[34,120,32,121,34]⟩,⟨#[34,113,92,34,113,34]⟩,⟨#[34,92,110,34]⟩,⟨#[34,35,110,111,34]⟩,⟨#[34,47,34]⟩]
theorem x_l4Str{B p len cap:Nat}{w:World}{a:Option Addr}{zs:List Int}{s:Nat×Int}(H:In B w p a len cap zs s):
  Calls Tryz.prog 193 #[.pointer (some ⟨p,0,none⟩)] w (fun e w'=>Out B p a len cap zs (.string (pickS l4StrL zs s)) (belowF zs 7 s).2 w e w'∧w.heap.size<w'.heap.size):=by
 have HI:=hid H
 clear H
 go_enter Tryz.func193,Tryz.ntmps193
 go_wp2_with fail
 refine(pick_lit 7 l4StrL HI.out rfl (by decide) (by decide)).mono ?_
 rintro e w1 ⟨⟨rfl,I1,G1⟩,Z1⟩
 have j:=hid I1
 clear I1
 go_wp2
 go_ret
 exact⟨⟨rfl,j.out,G1⟩,Z1⟩
def l4EreL:List ByteArray:=[⟨#[47,97,47]⟩,⟨#[47,94,120,43,36,47]⟩,⟨#[47,97,92,47,98,47]⟩,⟨#[47,61,47]⟩,⟨#[47,32,47]⟩,⟨#[47,91,48,45,57,93,47]⟩]
theorem x_l4Ere{B p len cap:Nat}{w:World}{a:Option Addr}{zs:List Int}{s:Nat×Int}(H:In B w p a len cap zs s):
  Calls Tryz.prog 194 #[.pointer (some ⟨p,0,none⟩)] w (fun e w'=>Out B p a len cap zs (.string (pickS l4EreL zs s)) (belowF zs 6 s).2 w e w'∧w.heap.size<w'.heap.size):=by
 have HI:=hid H
 clear H
 go_enter Tryz.func194,Tryz.ntmps194
 go_wp2_with fail
 refine(pick_lit 6 l4EreL HI.out rfl (by decide) (by decide)).mono ?_
 rintro e w1 ⟨⟨rfl,I1,G1⟩,Z1⟩
 have j:=hid I1
 clear I1
 go_wp2
 go_ret
 exact⟨⟨rfl,j.out,G1⟩,Z1⟩
def TR(p S:Nat)(v:Value)(q:List Nd)(w:World):Prop:=p<S∧∃z r,z.map (·.1)=q∧PT S v z r w∧∀i (h:i<z.length),z[i].2≠.slice none 0 0→r i≠p
theorem pt_kept2{B q:Nat}{v:Value}{z:List (Nd×Value)}{r:Nat→Nat}{w w':World}(h:PT B v z r w)(hg:w.grownBy w' (some q))(hv:v.ownBlock≠some q)(hr:∀i (h:i<z.length),z[i].2≠.slice none 0 0→r i≠q):PT B v z r w':=
 ⟨World.ownsRow.kept h.own hg (.inr hv),fun i hi=>by
  rcases h.kid i hi with hk|⟨cap,e1,e2,e3⟩
  ·exact .inl hk
  ·exact .inr ⟨cap,e1,e2.of_block (hg.block _ (h.lt i hi) (by simpa using hr i hi (by rw[e1];simp))),e3⟩,h.off,h.asc,fun i hi=>Nat.lt_of_lt_of_le (h.lt i hi) hg.size⟩
theorem TR.form{p S:Nat}{v:Value}{q:List Nd}{w:World}(h:TR p S v q w):∃a c,v= .slice a q.length c:=by
 obtain⟨_,z,r,hz,hp,_⟩:=h
 obtain⟨a,c,e⟩:=hp.form
 exact⟨a,c,by rw[e,←hz,List.length_map]⟩
theorem TR.lies{p S n c:Nat}{a:Option Addr}{q:List Nd}{w:World}(h:TR p S (.slice a n c) q w):Lies w.heap.size w a q:=by
 obtain⟨_,z,r,hz,hp,_⟩:=h
 rw[←hz]
 exact hp.lies
theorem TR.over{p S:Nat}{v:Value}{q:List Nd}{w w':World}(h:TR p S v q w)(hb:Below w.heap.size w w'):TR p S v q w':=by
 obtain⟨h0,z,r,hz,hp,hr⟩:=h
 exact⟨h0,z,r,hz,hp.keep hb (Nat.le_refl _),hr⟩
theorem TR.grown{p S:Nat}{v:Value}{q:List Nd}{w w':World}(h:TR p S v q w)(hg:w.grownBy w' (some p)):TR p S v q w':=by
 obtain⟨h0,z,r,hz,hp,hr⟩:=h
 refine⟨h0,z,r,hz,pt_kept2 hp hg (fun e=> ?_) hr,hr⟩
 have:=(World.ownsRow.lt hp.own p e).1
 omega
theorem TR.down{p S S':Nat}{v:Value}{q:List Nd}{w:World}(h:TR p S v q w)(hS:S'≤S)(hp:p<S'):TR p S' v q w:=by
 obtain⟨h0,z,r,hz,hpt,hr⟩:=h
 exact⟨hp,z,r,hz,hpt.up hS,hr⟩
def TOut(B p:Nat)(a:Option Addr)(len cap:Nat)(zs:List Int)(q:List Nd)(s':St)(w:World)(e:Ending)(w':World):Prop:=
 ∃v,e= .returned v∧TR p w.heap.size v q w'∧In B w' p a len cap zs s'∧w.grownBy w' (some p)
theorem PT.one{B g0:Nat}{w:World}(hB:B≤w.heap.size)(hg:g0<w.heap.size)(n:Nd)(hk:n.kids=[]):PT B (.slice (some ⟨w.heap.size,0,none⟩) 1 1) [(n,.slice none 0 0)] (fun _=>g0) (w.alloc (.cells #[.int .i64 n.k,.int .i64 n.op,.string n.s,.string n.t,.slice none 0 0] 57)):=by
 refine⟨World.ownsRow_lit w _ 1 hB (by unfold maxLen;omega) rfl,fun i hi=> ?_,fun i hi e=> ?_,fun i j hij hj=> ?_,fun i hi=> ?_⟩
 ·simp at hi
  subst hi
  exact .inl ⟨rfl,hk⟩
 ·injection e with e
  simp at e
  omega
 ·simp at hj;omega
 ·simp;omega
def leaf(k:Int)(x:ByteArray):List Nd:=[⟨k,0,x,⟨#[]⟩,[]⟩]
def leafT(zs:List Int)(s:St):List Nd×St:=
 let b:=belowF zs 7 s
 match b.1.toNat with
 |0=>(leaf 2 (pickS l4NumL zs b.2),(belowF zs 9 b.2).2)
 |1=>(leaf 3 (pickS l4StrL zs b.2),(belowF zs 7 b.2).2)
 |2=>if(belowF zs 2 b.2).1=0 then(leaf 4 (pickS l4EreL zs (belowF zs 2 b.2).2),(belowF zs 6 (belowF zs 2 b.2).2).2)else(leaf 1 (pickS l2WordL zs (belowF zs 2 b.2).2),(belowF zs 11 (belowF zs 2 b.2).2).2)
 |_=>(leaf 1 (pickS l2WordL zs b.2),(belowF zs 11 b.2).2)
theorem TOut.leaf0{B p len cap:Nat}{a:Option Addr}{zs:List Int}{s':St}{w w1:World}(k:Int)(x:ByteArray)(hI:In B w1 p a len cap zs s')(hp:p<w.heap.size)(hG:w.grownBy w1 (some p)):
  TOut B p a len cap zs (leaf k x) s' w (.returned (.slice (some ⟨w1.heap.size,0,none⟩) 1 1)) (w1.alloc (.cells #[.int .i64 k,.int .i64 0,.string x,.string ⟨#[]⟩,.slice none 0 0] 57)):=
 ⟨_,rfl,⟨hp,_,_,rfl,PT.one hG.size (Nat.lt_of_lt_of_le hp hG.size) ⟨k,0,x,⟨#[]⟩,[]⟩ rfl,fun i hi h=>by simp at hi;subst hi;exact absurd rfl h⟩,hI.keep ((Below.refl w1.heap.size w1).alloc (Nat.le_refl _) _) hI.lt,grown_below hG ((Below.refl w.heap.size w1).alloc hG.size _) rfl⟩
theorem TOut.leaf{B p len cap:Nat}{a:Option Addr}{zs:List Int}{s':St}{w w1:World}(k:Int)(x:ByteArray)(hI:In B w1 p a len cap zs s')(hp:p<w.heap.size)(hZ:w.heap.size<w1.heap.size)(hG:w.grownBy w1 (some p)):
  TOut B p a len cap zs (leaf k x) s' w (.returned (.slice (some ⟨w1.heap.size,0,none⟩) 1 1)) (w1.alloc (.cells #[.int .i64 k,.int .i64 0,.string x,.string ⟨#[]⟩,.slice none 0 0] 57)):=TOut.leaf0 k x hI hp hG
set_option maxHeartbeats 3200000 in
theorem leaf_any{B p len cap:Nat}{w:World}{a:Option Addr}{zs:List Int}{s:Nat×Int}(H:In B w p a len cap zs s):
  Calls Tryz.prog 127 #[.pointer (some ⟨p,0,none⟩)] w (TOut B p a len cap zs (leafT zs s).1 (leafT zs s).2 w):=by
 have HI:=hid H
 clear H
 have hb:=belowF_bd zs 7 s (by omega)
 obtain⟨K,hK⟩:∃K:Nat,(belowF zs 7 s).1=K:=⟨(belowF zs 7 s).1.toNat,by omega⟩
 have HK:=hid hK
 rw[hK]at hb
 rcases(show K=0∨K=1∨K=2∨K=3∨K=4∨K=5∨K=6 by omega)with rfl|rfl|rfl|rfl|rfl|rfl|rfl
 ·have HQ:=hid (show leafT zs s=(leaf 2 (pickS l4NumL zs (belowF zs 7 s).2),(belowF zs 9 (belowF zs 7 s).2).2) by simp only[leafT,hK];rfl)
  clear hK
  go_enter Tryz.func127,Tryz.ntmps127
  go_wp2_with fail
  refine(below_any 7 HI.out).mono ?_
  rintro e w1 ⟨he,I1,G1⟩
  rw[HK.out]at he
  subst he
  go_wp2_with fail
  refine(x_l4Num I1).mono ?_
  rintro e w2 ⟨⟨rfl,I2,G2⟩,Z2⟩
  go_wp2
  go_ret
  rw[HQ.out]
  exact TOut.leaf 2 _ I2 HI.lt (Nat.lt_of_le_of_lt G1.size Z2) (grown_trans G1 G2)
 ·have HQ:=hid (show leafT zs s=(leaf 3 (pickS l4StrL zs (belowF zs 7 s).2),(belowF zs 7 (belowF zs 7 s).2).2) by simp only[leafT,hK];rfl)
  clear hK
  go_enter Tryz.func127,Tryz.ntmps127
  go_wp2_with fail
  refine(below_any 7 HI.out).mono ?_
  rintro e w1 ⟨he,I1,G1⟩
  rw[HK.out]at he
  subst he
  go_wp2_with fail
  refine(x_l4Str I1).mono ?_
  rintro e w2 ⟨⟨rfl,I2,G2⟩,Z2⟩
  go_wp2
  go_ret
  rw[HQ.out]
  exact TOut.leaf 3 _ I2 HI.lt (Nat.lt_of_le_of_lt G1.size Z2) (grown_trans G1 G2)
 ·obtain⟨c,hc⟩:∃c,c=belowF zs 2 (belowF zs 7 s).2:=⟨_,rfl⟩
  have HC:=hid hc
  have hif:leafT zs s=(if c.1=0 then(leaf 4 (pickS l4EreL zs c.2),(belowF zs 6 c.2).2)else(leaf 1 (pickS l2WordL zs c.2),(belowF zs 11 c.2).2)):=by simp only[leafT,hK,hc];rfl
  by_cases hc0:c.1=0
  ·have HQ:=hid (show leafT zs s=(leaf 4 (pickS l4EreL zs c.2),(belowF zs 6 c.2).2)from hif.trans (if_pos hc0))
   have hcb:(c.1==0)=true:=by rw[hc0];rfl
   clear hK hif hc0 hc
   go_enter Tryz.func127,Tryz.ntmps127
   go_wp2_with fail
   refine(below_any 7 HI.out).mono ?_
   rintro e w1 ⟨he,I1,G1⟩
   rw[HK.out]at he
   subst he
   go_wp2_with fail
   refine(once_any 2 I1).mono ?_
   rintro e w2 ⟨he,I2,G2⟩
   rw[←HC.out,hcb]at he
   rw[←HC.out]at I2
   subst he
   go_wp2_with fail
   refine(x_l4Ere I2).mono ?_
   rintro e w3 ⟨⟨rfl,I3,G3⟩,Z3⟩
   go_wp2
   go_ret
   rw[HQ.out]
   exact TOut.leaf 4 _ I3 HI.lt (Nat.lt_of_le_of_lt (grown_trans G1 G2).size Z3) (grown_trans (grown_trans G1 G2) G3)
  ·have HQ:=hid (show leafT zs s=(leaf 1 (pickS l2WordL zs c.2),(belowF zs 11 c.2).2)from hif.trans (if_neg hc0))
   have hcb:(c.1==0)=false:=by simpa using hc0
   clear hK hif hc0 hc
   go_enter Tryz.func127,Tryz.ntmps127
   go_wp2_with fail
   refine(below_any 7 HI.out).mono ?_
   rintro e w1 ⟨he,I1,G1⟩
   rw[HK.out]at he
   subst he
   go_wp2_with fail
   refine(once_any 2 I1).mono ?_
   rintro e w2 ⟨he,I2,G2⟩
   rw[←HC.out,hcb]at he
   rw[←HC.out]at I2
   subst he
   go_wp2_with fail
   refine(x_l2Word I2).mono ?_
   rintro e w3 ⟨⟨rfl,I3,G3⟩,Z3⟩
   go_wp2
   go_ret
   rw[HQ.out]
   exact TOut.leaf 1 _ I3 HI.lt (Nat.lt_of_le_of_lt (grown_trans G1 G2).size Z3) (grown_trans (grown_trans G1 G2) G3)
 ·have HQ:=hid (show leafT zs s=(leaf 1 (pickS l2WordL zs (belowF zs 7 s).2),(belowF zs 11 (belowF zs 7 s).2).2) by simp only[leafT,hK];rfl)
  clear hK
  go_enter Tryz.func127,Tryz.ntmps127
  go_wp2_with fail
  refine(below_any 7 HI.out).mono ?_
  rintro e w1 ⟨he,I1,G1⟩
  rw[HK.out]at he
  subst he
  go_wp2_with fail
  refine(x_l2Word I1).mono ?_
  rintro e w2 ⟨⟨rfl,I2,G2⟩,Z2⟩
  go_wp2
  go_ret
  rw[HQ.out]
  exact TOut.leaf 1 _ I2 HI.lt (Nat.lt_of_le_of_lt G1.size Z2) (grown_trans G1 G2)
 ·have HQ:=hid (show leafT zs s=(leaf 1 (pickS l2WordL zs (belowF zs 7 s).2),(belowF zs 11 (belowF zs 7 s).2).2) by simp only[leafT,hK];rfl)
  clear hK
  go_enter Tryz.func127,Tryz.ntmps127
  go_wp2_with fail
  refine(below_any 7 HI.out).mono ?_
  rintro e w1 ⟨he,I1,G1⟩
  rw[HK.out]at he
  subst he
  go_wp2_with fail
  refine(x_l2Word I1).mono ?_
  rintro e w2 ⟨⟨rfl,I2,G2⟩,Z2⟩
  go_wp2
  go_ret
  rw[HQ.out]
  exact TOut.leaf 1 _ I2 HI.lt (Nat.lt_of_le_of_lt G1.size Z2) (grown_trans G1 G2)
 ·have HQ:=hid (show leafT zs s=(leaf 1 (pickS l2WordL zs (belowF zs 7 s).2),(belowF zs 11 (belowF zs 7 s).2).2) by simp only[leafT,hK];rfl)
  clear hK
  go_enter Tryz.func127,Tryz.ntmps127
  go_wp2_with fail
  refine(below_any 7 HI.out).mono ?_
  rintro e w1 ⟨he,I1,G1⟩
  rw[HK.out]at he
  subst he
  go_wp2_with fail
  refine(x_l2Word I1).mono ?_
  rintro e w2 ⟨⟨rfl,I2,G2⟩,Z2⟩
  go_wp2
  go_ret
  rw[HQ.out]
  exact TOut.leaf 1 _ I2 HI.lt (Nat.lt_of_le_of_lt G1.size Z2) (grown_trans G1 G2)
 ·have HQ:=hid (show leafT zs s=(leaf 1 (pickS l2WordL zs (belowF zs 7 s).2),(belowF zs 11 (belowF zs 7 s).2).2) by simp only[leafT,hK];rfl)
  clear hK
  go_enter Tryz.func127,Tryz.ntmps127
  go_wp2_with fail
  refine(below_any 7 HI.out).mono ?_
  rintro e w1 ⟨he,I1,G1⟩
  rw[HK.out]at he
  subst he
  go_wp2_with fail
  refine(x_l2Word I1).mono ?_
  rintro e w2 ⟨⟨rfl,I2,G2⟩,Z2⟩
  go_wp2
  go_ret
  rw[HQ.out]
  exact TOut.leaf 1 _ I2 HI.lt (Nat.lt_of_le_of_lt G1.size Z2) (grown_trans G1 G2)
end Go.Proofs.YtnoagleifffkcaaGreatDoor.draw

namespace Go.Proofs.YtnoagleifffkcaaGreatDoor.draw
open nd
set_option linter.unusedVariables false
structure Gen(σ T:Type) where
 bl:Nat→σ→Nat×σ
 nd:Nd→List T→T
section
variable {σ T:Type} (g:Gen σ T)
def pkG(L:List ByteArray)(s:σ):ByteArray×σ:=(L.getD (g.bl L.length s).1 ⟨#[]⟩,(g.bl L.length s).2)
def piG(L:List Int)(s:σ):Int×σ:=(L.getD (g.bl L.length s).1 0,(g.bl L.length s).2)
def nodeS(k:Int)(x:ByteArray):Nd:=⟨k,0,x,⟨#[]⟩,[]⟩
def nodeO(k o:Int):Nd:=⟨k,o,⟨#[]⟩,⟨#[]⟩,[]⟩
def wordG(s:σ):T×σ:=(g.nd (nodeS 1 (pkG g l2WordL s).1) [],(pkG g l2WordL s).2)
def leafG(s:σ):T×σ:=
 let b:=g.bl 7 s
 match b.1 with
 |0=>(g.nd (nodeS 2 (pkG g l4NumL b.2).1) [],(pkG g l4NumL b.2).2)
 |1=>(g.nd (nodeS 3 (pkG g l4StrL b.2).1) [],(pkG g l4StrL b.2).2)
 |2=>if(g.bl 2 b.2).1=0 then(g.nd (nodeS 4 (pkG g l4EreL (g.bl 2 b.2).2).1) [],(pkG g l4EreL (g.bl 2 b.2).2).2)else wordG g (g.bl 2 b.2).2
 |_=>wordG g b.2
def timesG{T:Type}(E:σ→T×σ):Nat→σ→List T×σ
 |0,s=>([],s)
 |n+1,s=>((E s).1::(timesG E n (E s).2).1,(timesG E n (E s).2).2)
def listG{T:Type}(g:Gen σ T)(E:σ→T×σ)(least most:Nat)(s:σ):List T×σ:=timesG E (least+(g.bl (most-least+1) s).1) (g.bl (most-least+1) s).2
def lvalG(E1 E2:σ→T×σ)(s:σ):T×σ:=
 let b:=g.bl 4 s
 match b.1 with
 |0=>(g.nd (nodeS 5 (pkG g l2WordL b.2).1) [(E1 (pkG g l2WordL b.2).2).1],(E1 (pkG g l2WordL b.2).2).2)
 |1=>(g.nd (nodeO 6 0) [(E2 b.2).1],(E2 b.2).2)
 |_=>wordG g b.2
def l7FnL:List ByteArray:=[⟨#[108,101,110,103,116,104]⟩,⟨#[115,117,98,115,116,114]⟩,⟨#[105,110,100,101,120]⟩,⟨#[105,110,116]⟩,⟨#[116,111,117,112,112,101,114]⟩]
def l7BinL:List Int:=[60,57,58,59,55,56,56,99,99,99,63,48,47,50,62,62,49,67,46,45,44]
def stepG(E1 E2 E3:σ→T×σ)(s:σ):T×σ:=
 let i:=g.bl 2 s
 let b:=g.bl 16 i.2
 match b.1 with
 |0=>leafG g b.2
 |1=>lvalG g E1 E2 b.2
 |2=>(g.nd (nodeO 6 0) [(E1 b.2).1],(E1 b.2).2)
 |3=>let x:=pkG g l2WordL b.2;let l:=listG g E1 0 3 x.2;(g.nd (nodeS 7 x.1) l.1,l.2)
 |4=>let x:=pkG g l7FnL b.2;let l:=listG g E2 0 3 x.2;(g.nd (nodeS 8 x.1) l.1,l.2)
 |5=>let v:=lvalG g E2 E3 b.2;(g.nd (nodeO 9 (51+(i.1:Int))) [v.1],v.2)
 |6=>let v:=lvalG g E2 E3 b.2;(g.nd (nodeO 10 (51+(i.1:Int))) [v.1],v.2)
 |7=>let o:=piG g [56,55,61] b.2;let e:=E1 o.2;(g.nd (nodeO 11 o.1) [e.1],e.2)
 |8=>let o:=piG g [56,55,61] b.2;let e:=E1 o.2;(g.nd (nodeO 11 o.1) [e.1],e.2)
 |9=>let x:=pkG g l2WordL b.2;let l:=listG g E1 1 2 x.2;(g.nd (nodeS 13 x.1) l.1,l.2)
 |10=>let e:=E1 b.2;let e2:=E1 e.2;let e3:=E1 e2.2;(g.nd (nodeO 14 0) [e.1,e2.1,e3.1],e3.2)
 |11=>let o:=piG g [54,38,43] b.2;let v:=lvalG g E2 E3 o.2;let e:=E1 v.2;(g.nd (nodeO 15 o.1) [v.1,e.1],e.2)
 |_=>let o:=piG g l7BinL b.2;let e:=E1 o.2;let e2:=E1 e.2;(g.nd (nodeO 12 o.1) [e.1,e2.1],e2.2)
def exprs:Nat→(σ→T×σ)×(σ→T×σ)×(σ→T×σ)
 |0=>(leafG g,leafG g,leafG g)
 |d+1=>(stepG g (exprs d).1 (exprs d).2.1 (exprs d).2.2,(exprs d).1,(exprs d).2.1)
def exprG(d:Nat)(s:σ):T×σ:=(exprs g d).1 s
def maybeG(E:σ→T×σ)(s:σ):T×σ:=if(g.bl 3 s).1=0 then(g.nd (nodeO 16 0) [],(g.bl 3 s).2)else E (g.bl 3 s).2
def l7OutL:List ByteArray:=[⟨#[62]⟩,⟨#[62,62]⟩,⟨#[124]⟩]
def l7NoteL:List ByteArray:=[⟨#[35]⟩,⟨#[35,32,110,111,116,101]⟩,⟨#[35,120,32,61,32,49]⟩]
def simpleG(E0 E1:σ→T×σ)(s:σ):T×σ:=
 let b:=g.bl 9 s
 let pr:=fun(u:σ)=>
  let o:=g.bl 2 u
  let l:=listG g E0 o.1 3 o.2
  let c:=g.bl 3 l.2
  if c.1=0 then
   let x:=pkG g l7OutL c.2
   let e:=E1 x.2
   (g.nd ⟨21,(o.1:Int),⟨#[]⟩,x.1,[]⟩ (l.1++[e.1]),e.2)
  else(g.nd (nodeO 21 (o.1:Int)) l.1,c.2)
 match b.1 with
 |0=>pr b.2
 |1=>pr b.2
 |2=>let o:=piG g [22,25,26] b.2;(g.nd (nodeO o.1 0) [],o.2)
 |3=>let o:=piG g [23,24] b.2;let l:=listG g E0 0 1 o.2;(g.nd (nodeO o.1 0) l.1,l.2)
 |4=>let x:=pkG g l2WordL b.2;let l:=listG g E1 0 2 x.2;(g.nd (nodeS 27 x.1) l.1,l.2)
 |5=>if(g.bl 2 b.2).1=0 then(let x:=pkG g l7NoteL (g.bl 2 b.2).2;(g.nd (nodeS 34 x.1) [],x.2))else(let e:=E0 (g.bl 2 b.2).2;(g.nd (nodeO 20 0) [e.1],e.2))
 |_=>let e:=E0 b.2;(g.nd (nodeO 20 0) [e.1],e.2)
def blockG(S:σ→T×σ)(s:σ):T×σ:=(g.nd (nodeO 33 0) (timesG S (g.bl 3 s).1 (g.bl 3 s).2).1,(timesG S (g.bl 3 s).1 (g.bl 3 s).2).2)
def compG(A1 A2 B:σ→T×σ)(s:σ):T×σ:=
 let b:=g.bl 6 s
 match b.1 with
 |0=>let e:=A1 b.2;let k:=B e.2;(g.nd (nodeO 28 0) [e.1,k.1],k.2)
 |1=>let e:=A1 b.2;let k:=B e.2;let j:=B k.2;(g.nd (nodeO 28 0) [e.1,k.1,j.1],j.2)
 |2=>let e:=A1 b.2;let k:=B e.2;(g.nd (nodeO 29 0) [e.1,k.1],k.2)
 |3=>let k:=B b.2;let e:=A1 k.2;(g.nd (nodeO 30 0) [k.1,e.1],e.2)
 |4=>let x:=maybeG g A2 b.2;let y:=maybeG g A1 x.2;let z:=maybeG g A1 y.2;let k:=B z.2;(g.nd (nodeO 31 0) [x.1,y.1,z.1,k.1],k.2)
 |_=>if(g.bl 2 b.2).1=0 then B (g.bl 2 b.2).2 else(let x:=pkG g l2WordL (g.bl 2 b.2).2;let y:=pkG g l2WordL x.2;let k:=B y.2;(g.nd ⟨32,0,x.1,y.1,[]⟩ [k.1],k.2))
def stmtG:Nat→σ→T×σ
 |0,s=>simpleG g (exprG g 0) (exprG g 0) s
 |d+1,s=>if(g.bl 3 s).1=0 then compG g (exprG g 1) (exprG g 2) (blockG g (stmtG d)) (g.bl 3 s).2 else simpleG g (exprG g (min (d+1) 2)) (exprG g (min (d+1) 2-1)) (g.bl 3 s).2
def l7NameL:List ByteArray:=[⟨#[102]⟩,⟨#[103]⟩,⟨#[109,97,120]⟩]
def l7TopL:List ByteArray:=[⟨#[35,32,116,111,112]⟩,⟨#[35]⟩]
def itemG(s:σ):T×σ:=
 let d:=1+(g.bl 2 s).1
 let b:=g.bl 8 (g.bl 2 s).2
 let E:=exprG g d
 let B:=blockG g (stmtG g d)
 match b.1 with
 |0=>let o:=g.bl 2 b.2;let k:=B o.2;(g.nd (nodeO (40+(o.1:Int)) 0) [k.1],k.2)
 |1=>let e:=E b.2;(g.nd (nodeO 42 1) [e.1],e.2)
 |2=>let k:=B b.2;(g.nd (nodeO 42 2) [k.1],k.2)
 |3=>let e:=exprG g 1 b.2;let f:=exprG g 1 e.2;(g.nd (nodeO 43 1) [e.1,f.1],f.2)
 |4=>let e:=exprG g 1 b.2;let f:=exprG g 1 e.2;let k:=B f.2;(g.nd (nodeO 43 3) [e.1,f.1,k.1],k.2)
 |5=>let n:=g.bl 3 b.2;let l:=timesG (wordG g) n.1 n.2;let x:=pkG g l7NameL l.2;let k:=B x.2;(g.nd (nodeS 44 x.1) (l.1++[k.1]),k.2)
 |6=>let x:=pkG g l7TopL b.2;(g.nd (nodeS 34 x.1) [],x.2)
 |_=>let e:=E b.2;let k:=B e.2;(g.nd (nodeO 42 3) [e.1,k.1],k.2)
def progG(s:σ):T×σ:=(g.nd (nodeO 45 0) (timesG (itemG g) (g.bl 4 s).1 (g.bl 4 s).2).1,(timesG (itemG g) (g.bl 4 s).1 (g.bl 4 s).2).2)
def someG(s:σ):T×σ:=exprG g (1+(g.bl 4 s).1) (g.bl 4 s).2
end
section
variable {σ T σ' T':Type} {g:Gen σ T} {g':Gen σ' T'} {R:σ→σ'→Prop} {Q:T→T'→Prop}
def InStep(R:σ→σ'→Prop)(Q:T→T'→Prop)(x:T×σ)(y:T'×σ'):Prop:=Q x.1 y.1∧R x.2 y.2
inductive All2 (Q:T→T'→Prop):List T→List T'→Prop
 |nil:All2 Q [] []
 |cons {a b l k}:Q a b→All2 Q l k→All2 Q (a::l) (b::k)
theorem All2.snoc{l:List T}{k:List T'}(h:All2 Q l k){a:T}{b:T'}(hq:Q a b):All2 Q (l++[a]) (k++[b]):=by
 induction h with
 |nil=>exact .cons hq .nil
 |cons h1 _ ih=>exact .cons h1 ih
def Fn(R:σ→σ'→Prop)(Q:T→T'→Prop)(E:σ→T×σ)(E':σ'→T'×σ'):Prop:=∀s u,R s u→InStep R Q (E s) (E' u)
structure Step(g:Gen σ T)(g':Gen σ' T')(R:σ→σ'→Prop)(Q:T→T'→Prop):Prop where
 bl:∀n s u,0<n→n≤256→R s u→(g.bl n s).1=(g'.bl n u).1∧R (g.bl n s).2 (g'.bl n u).2
 nd:∀n l k,All2 Q l k→Q (g.nd n l) (g'.nd n k)
variable (H:Step g g' R Q)
include H
theorem Step.pk{L:List ByteArray}(h0:0<L.length)(h1:L.length≤256){s:σ}{u:σ'}(h:R s u):(pkG g L s).1=(pkG g' L u).1∧R (pkG g L s).2 (pkG g' L u).2:=by
 obtain⟨e,r⟩:=H.bl _ s u h0 h1 h
 exact⟨by unfold pkG;rw[e],r⟩
theorem Step.pi{L:List Int}(h0:0<L.length)(h1:L.length≤256){s:σ}{u:σ'}(h:R s u):(piG g L s).1=(piG g' L u).1∧R (piG g L s).2 (piG g' L u).2:=by
 obtain⟨e,r⟩:=H.bl _ s u h0 h1 h
 exact⟨by unfold piG;rw[e],r⟩
theorem Step.word:Fn R Q (wordG g) (wordG g'):=by
 intro s u h
 obtain⟨e,r⟩:=H.pk (L:=l2WordL) (by decide) (by decide) h
 unfold wordG
 rw[e]
 exact⟨H.nd _ _ _ .nil,r⟩
omit H in
theorem times_two{E:σ→T×σ}{E':σ'→T'×σ'}(hE:Fn R Q E E'):∀n s u,R s u→All2 Q (timesG E n s).1 (timesG E' n u).1∧R (timesG E n s).2 (timesG E' n u).2:=by
 intro n
 induction n with
 |zero=>intro s u h;exact⟨.nil,h⟩
 |succ n ih=>
  intro s u h
  obtain⟨q,r⟩:=hE s u h
  obtain⟨q2,r2⟩:=ih _ _ r
  exact⟨.cons q q2,r2⟩
theorem Step.list{E:σ→T×σ}{E':σ'→T'×σ'}(hE:Fn R Q E E')(least most:Nat)(hm:most≤200){s:σ}{u:σ'}(h:R s u):All2 Q (listG g E least most s).1 (listG g' E' least most u).1∧R (listG g E least most s).2 (listG g' E' least most u).2:=by
 obtain⟨e,r⟩:=H.bl (most-least+1) s u (by omega) (by omega) h
 unfold listG
 rw[e]
 exact times_two hE _ _ _ r
end
end Go.Proofs.YtnoagleifffkcaaGreatDoor.draw

namespace Go.Proofs.YtnoagleifffkcaaGreatDoor.draw
open nd
set_option linter.unusedVariables false
section
variable {σ T σ' T':Type} {g:Gen σ T} {g':Gen σ' T'} {R:σ→σ'→Prop} {Q:T→T'→Prop}
theorem All2.one{a:T}{b:T'}(h:Q a b):All2 Q [a] [b]:= .cons h .nil
theorem All2.two{a c:T}{b d:T'}(h:Q a b)(h2:Q c d):All2 Q [a,c] [b,d]:= .cons h (.cons h2 .nil)
theorem All2.three{a c e:T}{b d f:T'}(h:Q a b)(h2:Q c d)(h3:Q e f):All2 Q [a,c,e] [b,d,f]:= .cons h (.cons h2 (.cons h3 .nil))
theorem All2.four{a c e x:T}{b d f y:T'}(h:Q a b)(h2:Q c d)(h3:Q e f)(h4:Q x y):All2 Q [a,c,e,x] [b,d,f,y]:= .cons h (.cons h2 (.cons h3 (.cons h4 .nil)))
variable (H:Step g g' R Q)
include H
theorem Step.node{n n':Nd}{l:List T}{k:List T'}{s:σ}{u:σ'}(hn:n=n')(hl:All2 Q l k)(hr:R s u):InStep R Q (g.nd n l,s) (g'.nd n' k,u):=by
 subst hn
 exact⟨H.nd _ _ _ hl,hr⟩
theorem Step.leaf:Fn R Q (leafG g) (leafG g'):=by
 intro s u h
 obtain⟨e,r⟩:=H.bl 7 s u (by decide) (by decide) h
 unfold leafG
 dsimp only
 rw[e]
 generalize (g'.bl 7 u).1=b
 rcases b with _|_|_|b
 ·obtain⟨e1,r1⟩:=H.pk (L:=l4NumL) (by decide) (by decide) r
  exact H.node (congrArg (nodeS 2) e1) .nil r1
 ·obtain⟨e1,r1⟩:=H.pk (L:=l4StrL) (by decide) (by decide) r
  exact H.node (congrArg (nodeS 3) e1) .nil r1
 ·obtain⟨e1,r1⟩:=H.bl 2 _ _ (by decide) (by decide) r
  obtain⟨e2,r2⟩:=H.pk (L:=l4EreL) (by decide) (by decide) r1
  (try dsimp only)
  rw[e1]
  by_cases hc:(g'.bl 2 (g'.bl 7 u).2).1=0
  ·rw[if_pos hc,if_pos hc]
   exact H.node (congrArg (nodeS 4) e2) .nil r2
  ·rw[if_neg hc,if_neg hc]
   exact H.word _ _ r1
 ·exact H.word _ _ r
theorem Step.lval{E1 E2:σ→T×σ}{F1 F2:σ'→T'×σ'}(h1:Fn R Q E1 F1)(h2:Fn R Q E2 F2):Fn R Q (lvalG g E1 E2) (lvalG g' F1 F2):=by
 intro s u h
 obtain⟨e,r⟩:=H.bl 4 s u (by decide) (by decide) h
 unfold lvalG
 dsimp only
 rw[e]
 generalize (g'.bl 4 u).1=b
 rcases b with _|_|b
 ·obtain⟨e1,r1⟩:=H.pk (L:=l2WordL) (by decide) (by decide) r
  obtain⟨q2,r2⟩:=h1 _ _ r1
  exact H.node (congrArg (nodeS 5) e1) (.one q2) r2
 ·obtain⟨q2,r2⟩:=h2 _ _ r
  exact H.node rfl (.one q2) r2
 ·exact H.word _ _ r
theorem Step.step{E1 E2 E3:σ→T×σ}{F1 F2 F3:σ'→T'×σ'}(h1:Fn R Q E1 F1)(h2:Fn R Q E2 F2)(h3:Fn R Q E3 F3):Fn R Q (stepG g E1 E2 E3) (stepG g' F1 F2 F3):=by
 intro s u h
 obtain⟨ei,ri⟩:=H.bl 2 s u (by decide) (by decide) h
 obtain⟨e,r⟩:=H.bl 16 _ _ (by decide) (by decide) ri
 unfold stepG
 dsimp only
 rw[e,ei]
 generalize (g'.bl 16 (g'.bl 2 u).2).1=b
 rcases b with _|_|_|_|_|_|_|_|_|_|_|_|b
 ·exact H.leaf _ _ r
 ·exact H.lval h1 h2 _ _ r
 ·obtain⟨q2,r2⟩:=h1 _ _ r
  exact H.node rfl (.one q2) r2
 ·obtain⟨e1,r1⟩:=H.pk (L:=l2WordL) (by decide) (by decide) r
  obtain⟨q2,r2⟩:=H.list h1 0 3 (by decide) r1
  exact H.node (congrArg (nodeS 7) e1) q2 r2
 ·obtain⟨e1,r1⟩:=H.pk (L:=l7FnL) (by decide) (by decide) r
  obtain⟨q2,r2⟩:=H.list h2 0 3 (by decide) r1
  exact H.node (congrArg (nodeS 8) e1) q2 r2
 ·obtain⟨q2,r2⟩:=H.lval h2 h3 _ _ r
  exact H.node rfl (.one q2) r2
 ·obtain⟨q2,r2⟩:=H.lval h2 h3 _ _ r
  exact H.node rfl (.one q2) r2
 ·obtain⟨e1,r1⟩:=H.pi (L:=[56,55,61]) (by decide) (by decide) r
  obtain⟨q2,r2⟩:=h1 _ _ r1
  exact H.node (congrArg (nodeO 11) e1) (.one q2) r2
 ·obtain⟨e1,r1⟩:=H.pi (L:=[56,55,61]) (by decide) (by decide) r
  obtain⟨q2,r2⟩:=h1 _ _ r1
  exact H.node (congrArg (nodeO 11) e1) (.one q2) r2
 ·obtain⟨e1,r1⟩:=H.pk (L:=l2WordL) (by decide) (by decide) r
  obtain⟨q2,r2⟩:=H.list h1 1 2 (by decide) r1
  exact H.node (congrArg (nodeS 13) e1) q2 r2
 ·obtain⟨q1,r1⟩:=h1 _ _ r
  obtain⟨q2,r2⟩:=h1 _ _ r1
  obtain⟨q3,r3⟩:=h1 _ _ r2
  exact H.node rfl (.three q1 q2 q3) r3
 ·obtain⟨e1,r1⟩:=H.pi (L:=[54,38,43]) (by decide) (by decide) r
  obtain⟨q2,r2⟩:=H.lval h2 h3 _ _ r1
  obtain⟨q3,r3⟩:=h1 _ _ r2
  exact H.node (congrArg (nodeO 15) e1) (.two q2 q3) r3
 ·obtain⟨e1,r1⟩:=H.pi (L:=l7BinL) (by decide) (by decide) r
  obtain⟨q2,r2⟩:=h1 _ _ r1
  obtain⟨q3,r3⟩:=h1 _ _ r2
  exact H.node (congrArg (nodeO 12) e1) (.two q2 q3) r3
theorem Step.exprs:∀d,Fn R Q (exprs g d).1 (exprs g' d).1∧Fn R Q (exprs g d).2.1 (exprs g' d).2.1∧Fn R Q (exprs g d).2.2 (exprs g' d).2.2:=by
 intro d
 induction d with
 |zero=>exact⟨H.leaf,H.leaf,H.leaf⟩
 |succ d ih=>exact⟨H.step ih.1 ih.2.1 ih.2.2,ih.1,ih.2.1⟩
theorem Step.expr(d:Nat):Fn R Q (exprG g d) (exprG g' d):=(H.exprs d).1
theorem Step.maybe{E:σ→T×σ}{F:σ'→T'×σ'}(h1:Fn R Q E F):Fn R Q (maybeG g E) (maybeG g' F):=by
 intro s u h
 obtain⟨e,r⟩:=H.bl 3 s u (by decide) (by decide) h
 unfold maybeG
 rw[e]
 by_cases hc:(g'.bl 3 u).1=0
 ·rw[if_pos hc,if_pos hc]
  exact H.node rfl .nil r
 ·rw[if_neg hc,if_neg hc]
  exact h1 _ _ r
theorem Step.simple{E0 E1:σ→T×σ}{F0 F1:σ'→T'×σ'}(h0:Fn R Q E0 F0)(h1:Fn R Q E1 F1):Fn R Q (simpleG g E0 E1) (simpleG g' F0 F1):=by
 intro s u h
 obtain⟨e,r⟩:=H.bl 9 s u (by decide) (by decide) h
 have pr:∀(x:σ) (y:σ'),R x y→InStep R Q
   (if(g.bl 3 (listG g E0 (g.bl 2 x).1 3 (g.bl 2 x).2).2).1=0 then
    (g.nd ⟨21,((g.bl 2 x).1:Int),⟨#[]⟩,(pkG g l7OutL (g.bl 3 (listG g E0 (g.bl 2 x).1 3 (g.bl 2 x).2).2).2).1,[]⟩ ((listG g E0 (g.bl 2 x).1 3 (g.bl 2 x).2).1++[(E1 (pkG g l7OutL (g.bl 3 (listG g E0 (g.bl 2 x).1 3 (g.bl 2 x).2).2).2).2).1]),(E1 (pkG g l7OutL (g.bl 3 (listG g E0 (g.bl 2 x).1 3 (g.bl 2 x).2).2).2).2).2)
    else(g.nd (nodeO 21 ((g.bl 2 x).1:Int)) (listG g E0 (g.bl 2 x).1 3 (g.bl 2 x).2).1,(g.bl 3 (listG g E0 (g.bl 2 x).1 3 (g.bl 2 x).2).2).2))
   (if(g'.bl 3 (listG g' F0 (g'.bl 2 y).1 3 (g'.bl 2 y).2).2).1=0 then
    (g'.nd ⟨21,((g'.bl 2 y).1:Int),⟨#[]⟩,(pkG g' l7OutL (g'.bl 3 (listG g' F0 (g'.bl 2 y).1 3 (g'.bl 2 y).2).2).2).1,[]⟩ ((listG g' F0 (g'.bl 2 y).1 3 (g'.bl 2 y).2).1++[(F1 (pkG g' l7OutL (g'.bl 3 (listG g' F0 (g'.bl 2 y).1 3 (g'.bl 2 y).2).2).2).2).1]),(F1 (pkG g' l7OutL (g'.bl 3 (listG g' F0 (g'.bl 2 y).1 3 (g'.bl 2 y).2).2).2).2).2)
    else(g'.nd (nodeO 21 ((g'.bl 2 y).1:Int)) (listG g' F0 (g'.bl 2 y).1 3 (g'.bl 2 y).2).1,(g'.bl 3 (listG g' F0 (g'.bl 2 y).1 3 (g'.bl 2 y).2).2).2)):=by
  intro x y hxy
  obtain⟨e1,r1⟩:=H.bl 2 x y (by decide) (by decide) hxy
  rw[e1]
  obtain⟨q2,r2⟩:=H.list h0 (g'.bl 2 y).1 3 (by decide) r1
  obtain⟨e3,r3⟩:=H.bl 3 _ _ (by decide) (by decide) r2
  rw[e3]
  by_cases hc:(g'.bl 3 (listG g' F0 (g'.bl 2 y).1 3 (g'.bl 2 y).2).2).1=0
  ·rw[if_pos hc,if_pos hc]
   obtain⟨e4,r4⟩:=H.pk (L:=l7OutL) (by decide) (by decide) r3
   obtain⟨q5,r5⟩:=h1 _ _ r4
   exact H.node (congrArg (fun z=>(⟨21,((g'.bl 2 y).1:Int),⟨#[]⟩,z,[]⟩:Nd)) e4) (q2.snoc q5) r5
  ·rw[if_neg hc,if_neg hc]
   exact H.node rfl q2 r3
 unfold simpleG
 dsimp only
 rw[e]
 generalize (g'.bl 9 u).1=b
 rcases b with _|_|_|_|_|_|b
 ·exact pr _ _ r
 ·exact pr _ _ r
 ·obtain⟨e1,r1⟩:=H.pi (L:=[22,25,26]) (by decide) (by decide) r
  exact H.node (congrArg (fun z=>nodeO z 0) e1) .nil r1
 ·obtain⟨e1,r1⟩:=H.pi (L:=[23,24]) (by decide) (by decide) r
  obtain⟨q2,r2⟩:=H.list h0 0 1 (by decide) r1
  exact H.node (congrArg (fun z=>nodeO z 0) e1) q2 r2
 ·obtain⟨e1,r1⟩:=H.pk (L:=l2WordL) (by decide) (by decide) r
  obtain⟨q2,r2⟩:=H.list h1 0 2 (by decide) r1
  exact H.node (congrArg (nodeS 27) e1) q2 r2
 ·obtain⟨e1,r1⟩:=H.bl 2 _ _ (by decide) (by decide) r
  (try dsimp only)
  rw[e1]
  by_cases hc:(g'.bl 2 (g'.bl 9 u).2).1=0
  ·rw[if_pos hc,if_pos hc]
   obtain⟨e2,r2⟩:=H.pk (L:=l7NoteL) (by decide) (by decide) r1
   exact H.node (congrArg (nodeS 34) e2) .nil r2
  ·rw[if_neg hc,if_neg hc]
   obtain⟨q2,r2⟩:=h0 _ _ r1
   exact H.node rfl (.one q2) r2
 ·obtain⟨q2,r2⟩:=h0 _ _ r
  exact H.node rfl (.one q2) r2
theorem Step.block{S:σ→T×σ}{S':σ'→T'×σ'}(h1:Fn R Q S S'):Fn R Q (blockG g S) (blockG g' S'):=by
 intro s u h
 obtain⟨e,r⟩:=H.bl 3 s u (by decide) (by decide) h
 unfold blockG
 rw[e]
 obtain⟨q,r2⟩:=times_two h1 (g'.bl 3 u).1 _ _ r
 exact H.node rfl q r2
theorem Step.comp{A1 A2 B:σ→T×σ}{A1' A2' B':σ'→T'×σ'}(h1:Fn R Q A1 A1')(h2:Fn R Q A2 A2')(hb:Fn R Q B B'):Fn R Q (compG g A1 A2 B) (compG g' A1' A2' B'):=by
 intro s u h
 obtain⟨e,r⟩:=H.bl 6 s u (by decide) (by decide) h
 unfold compG
 dsimp only
 rw[e]
 generalize (g'.bl 6 u).1=b
 rcases b with _|_|_|_|_|b
 ·obtain⟨q1,r1⟩:=h1 _ _ r
  obtain⟨q2,r2⟩:=hb _ _ r1
  exact H.node rfl (.two q1 q2) r2
 ·obtain⟨q1,r1⟩:=h1 _ _ r
  obtain⟨q2,r2⟩:=hb _ _ r1
  obtain⟨q3,r3⟩:=hb _ _ r2
  exact H.node rfl (.three q1 q2 q3) r3
 ·obtain⟨q1,r1⟩:=h1 _ _ r
  obtain⟨q2,r2⟩:=hb _ _ r1
  exact H.node rfl (.two q1 q2) r2
 ·obtain⟨q1,r1⟩:=hb _ _ r
  obtain⟨q2,r2⟩:=h1 _ _ r1
  exact H.node rfl (.two q1 q2) r2
 ·obtain⟨q1,r1⟩:=H.maybe h2 _ _ r
  obtain⟨q2,r2⟩:=H.maybe h1 _ _ r1
  obtain⟨q3,r3⟩:=H.maybe h1 _ _ r2
  obtain⟨q4,r4⟩:=hb _ _ r3
  exact H.node rfl (.four q1 q2 q3 q4) r4
 ·obtain⟨e1,r1⟩:=H.bl 2 _ _ (by decide) (by decide) r
  (try dsimp only)
  rw[e1]
  by_cases hc:(g'.bl 2 (g'.bl 6 u).2).1=0
  ·rw[if_pos hc,if_pos hc]
   exact hb _ _ r1
  ·rw[if_neg hc,if_neg hc]
   obtain⟨e2,r2⟩:=H.pk (L:=l2WordL) (by decide) (by decide) r1
   obtain⟨e3,r3⟩:=H.pk (L:=l2WordL) (by decide) (by decide) r2
   obtain⟨q4,r4⟩:=hb _ _ r3
   exact H.node (by rw[e2,e3]) (.one q4) r4
theorem Step.stmt:∀d,Fn R Q (stmtG g d) (stmtG g' d):=by
 intro d
 induction d with
 |zero=>exact H.simple (H.expr 0) (H.expr 0)
 |succ d ih=>
  intro s u h
  obtain⟨e,r⟩:=H.bl 3 s u (by decide) (by decide) h
  unfold stmtG
  rw[e]
  by_cases hc:(g'.bl 3 u).1=0
  ·rw[if_pos hc,if_pos hc]
   exact H.comp (H.expr 1) (H.expr 2) (H.block ih) _ _ r
  ·rw[if_neg hc,if_neg hc]
   exact H.simple (H.expr _) (H.expr _) _ _ r
theorem Step.item:Fn R Q (itemG g) (itemG g'):=by
 intro s u h
 obtain⟨ed,rd⟩:=H.bl 2 s u (by decide) (by decide) h
 obtain⟨e,r⟩:=H.bl 8 _ _ (by decide) (by decide) rd
 have hE:=H.expr (1+(g'.bl 2 u).1)
 have hB:=H.block (H.stmt (1+(g'.bl 2 u).1))
 unfold itemG
 dsimp only
 rw[e,ed]
 generalize (g'.bl 8 (g'.bl 2 u).2).1=b
 rcases b with _|_|_|_|_|_|_|b
 ·obtain⟨e1,r1⟩:=H.bl 2 _ _ (by decide) (by decide) r
  obtain⟨q2,r2⟩:=hB _ _ r1
  exact H.node (congrArg (fun z:Nat=>nodeO (40+(z:Int)) 0) e1) (.one q2) r2
 ·obtain⟨q1,r1⟩:=hE _ _ r
  exact H.node rfl (.one q1) r1
 ·obtain⟨q1,r1⟩:=hB _ _ r
  exact H.node rfl (.one q1) r1
 ·obtain⟨q1,r1⟩:=H.expr 1 _ _ r
  obtain⟨q2,r2⟩:=H.expr 1 _ _ r1
  exact H.node rfl (.two q1 q2) r2
 ·obtain⟨q1,r1⟩:=H.expr 1 _ _ r
  obtain⟨q2,r2⟩:=H.expr 1 _ _ r1
  obtain⟨q3,r3⟩:=hB _ _ r2
  exact H.node rfl (.three q1 q2 q3) r3
 ·obtain⟨e1,r1⟩:=H.bl 3 _ _ (by decide) (by decide) r
  (try dsimp only)
  rw[e1]
  obtain⟨q2,r2⟩:=times_two H.word (g'.bl 3 (g'.bl 8 (g'.bl 2 u).2).2).1 _ _ r1
  obtain⟨e3,r3⟩:=H.pk (L:=l7NameL) (by decide) (by decide) r2
  obtain⟨q4,r4⟩:=hB _ _ r3
  exact H.node (congrArg (nodeS 44) e3) (q2.snoc q4) r4
 ·obtain⟨e1,r1⟩:=H.pk (L:=l7TopL) (by decide) (by decide) r
  exact H.node (congrArg (nodeS 34) e1) .nil r1
 ·obtain⟨q1,r1⟩:=hE _ _ r
  obtain⟨q2,r2⟩:=hB _ _ r1
  exact H.node rfl (.two q1 q2) r2
theorem Step.prog:Fn R Q (progG g) (progG g'):=by
 intro s u h
 obtain⟨e,r⟩:=H.bl 4 s u (by decide) (by decide) h
 unfold progG
 rw[e]
 obtain⟨q,r2⟩:=times_two H.item (g'.bl 4 u).1 _ _ r
 exact H.node rfl q r2
theorem Step.some:Fn R Q (someG g) (someG g'):=by
 intro s u h
 obtain⟨e,r⟩:=H.bl 4 s u (by decide) (by decide) h
 unfold someG
 rw[e]
 exact H.expr _ _ _ r
end
end Go.Proofs.YtnoagleifffkcaaGreatDoor.draw

namespace Go.Proofs.YtnoagleifffkcaaGreatDoor.lcg
set_option linter.unusedVariables false
def it(f:Nat→Nat):Nat→Nat→Nat
 |0,u=>u
 |n+1,u=>it f n (f u)
theorem it_add(f:Nat→Nat):∀(m n u:Nat),it f (m+n) u=it f n (it f m u):=by
 intro m
 induction m with
 |zero=>intro n u;rw[Nat.zero_add];rfl
 |succ m ih=>intro n u;rw[Nat.succ_add];exact ih n (f u)
theorem it_lt(f:Nat→Nat)(m:Nat)(hf:∀u,f u<m):∀(n u:Nat),u<m→it f n u<m:=by
 intro n
 induction n with
 |zero=>intro u h;exact h
 |succ n ih=>intro u h;exact ih _ (hf u)
def AC(a c m:Nat):Nat→Nat×Nat
 |0=>(a,c)
 |k+1=>((AC a c m k).1*(AC a c m k).1%m,((AC a c m k).1*(AC a c m k).2+(AC a c m k).2)%m)
theorem it_pow(f:Nat→Nat)(a c m:Nat)(hf:∀u,f u=(u*a+c)%m):∀(k u:Nat),it f (2^k) u=(u*(AC a c m k).1+(AC a c m k).2)%m:=by
 intro k
 induction k with
 |zero=>intro u;exact hf u
 |succ k ih=>
  intro u
  rw[Nat.pow_succ,Nat.mul_two,it_add,ih,ih]
  simp only[AC]
  generalize (AC a c m k).1=A
  generalize (AC a c m k).2=C
  rw[Nat.add_mod,Nat.mul_mod,Nat.mod_mod,←Nat.mul_mod,←Nat.add_mod]
  rw[Nat.add_mod (u*_),Nat.mul_mod u,Nat.mod_mod,←Nat.mul_mod,Nat.mod_mod,←Nat.add_mod]
  congr 1
  rw[Nat.add_mul,Nat.mul_assoc,Nat.mul_comm C A,Nat.add_assoc]
def Odd(a c m:Nat):Prop:=∀k,k<64→(AC a c m k).1%2^(k+1)=1∧(AC a c m k).2%2^(k+1)=2^k
section
variable (f:Nat→Nat) (a c m:Nat) (hf:∀u,f u=(u*a+c)%m) (hm:m=2^64) (ho:Odd a c m)
include hf hm ho
theorem reach_bit(k u t:Nat)(hk:k<64)(h:u%2^k=t%2^k):∃n,it f n u%2^(k+1)=t%2^(k+1):=by
 by_cases he:u%2^(k+1)=t%2^(k+1)
 ·exact⟨0,he⟩
 ·refine⟨2^k, ?_⟩
  obtain⟨h1,h2⟩:=ho k hk
  have hd:2^(k+1)∣m:=⟨2^(63-k),by rw[hm,←Nat.pow_add,show k+1+(63-k)=64 by omega]⟩
  rw[it_pow f a c m hf,Nat.mod_mod_of_dvd _ hd,Nat.add_mod,Nat.mul_mod,h1,h2,Nat.mul_one,Nat.mod_mod]
  have hp:2^(k+1)=2*2^k:=by rw[Nat.pow_succ,Nat.mul_comm]
  have hu:u%2^(k+1)%2^k=u%2^k:=Nat.mod_mod_of_dvd _ ⟨2,by rw[hp,Nat.mul_comm]⟩
  have ht:t%2^(k+1)%2^k=t%2^k:=Nat.mod_mod_of_dvd _ ⟨2,by rw[hp,Nat.mul_comm]⟩
  clear h1 h2 hd hf ho hm
  have bu:u%2^(k+1)<2^(k+1):=Nat.mod_lt _ (Nat.two_pow_pos _)
  have bt:t%2^(k+1)<2^(k+1):=Nat.mod_lt _ (Nat.two_pow_pos _)
  have hP:=Nat.two_pow_pos k
  have e:u%(2*2^k)≠t%(2*2^k):=by rw[←hp];exact he
  clear he
  rw[hp]at hu ht bu bt⊢
  clear hp
  generalize 2^k=P at hu ht bu bt h hP e⊢
  generalize u%(2*P)=x at hu bu e⊢
  generalize t%(2*P)=y at ht bt e⊢
  have dx:x=x%P∨x=x%P+P:=by
   rcases Nat.lt_or_ge x P with h|h
   ·left;rw[Nat.mod_eq_of_lt h]
   ·right;rw[Nat.mod_eq_sub_mod h,Nat.mod_eq_of_lt (by omega)];omega
  have dy:y=y%P∨y=y%P+P:=by
   rcases Nat.lt_or_ge y P with h|h
   ·left;rw[Nat.mod_eq_of_lt h]
   ·right;rw[Nat.mod_eq_sub_mod h,Nat.mod_eq_of_lt (by omega)];omega
  rw[hu]at dx
  rw[ht,←h]at dy
  have hq:u%P<P:=Nat.mod_lt _ hP
  generalize u%P=q at dx dy hq
  rcases dx with dx|dx
  ·rcases dy with dy|dy
   ·exact absurd (dx.trans dy.symm) e
   ·rw[dx,dy];exact Nat.mod_eq_of_lt (by omega)
  ·rcases dy with dy|dy
   ·rw[dx,dy,show q+P+P=q+2*P by omega,Nat.add_mod_right];exact Nat.mod_eq_of_lt (by omega)
   ·exact absurd (dx.trans dy.symm) e
theorem reach_low(u t:Nat):∀k,k≤64→∃n,it f n u%2^k=t%2^k:=by
 intro k
 induction k with
 |zero=>intro _;exact⟨0,by simp[Nat.mod_one]⟩
 |succ k ih=>
  intro hk
  obtain⟨n,hn⟩:=ih (by omega)
  obtain⟨j,hj⟩:=reach_bit f a c m hf hm ho k (it f n u) t (by omega) hn
  exact⟨n+j,by rw[it_add];exact hj⟩
theorem reach(u t:Nat)(hu:u<m)(ht:t<m):∃n,it f n u=t:=by
 obtain⟨n,hn⟩:=reach_low f a c m hf hm ho u t 64 (Nat.le_refl _)
 refine⟨n, ?_⟩
 have h1:=it_lt f m (fun u=>by rw[hf];exact Nat.mod_lt _ (by rw[hm];exact Nat.two_pow_pos 64)) n u hu
 rw[←hm,Nat.mod_eq_of_lt h1,Nat.mod_eq_of_lt ht]at hn
 exact hn
end
def EndsIn{α:Type}(g:α→Bool×α):Nat→α→Prop
 |0,_=>False
 |n+1,s=>(g s).1=true∨EndsIn g n (g s).2
def endsB{α:Type}(g:α→Bool×α):Nat→α→Bool
 |0,_=>false
 |n+1,s=>if(g s).1 then true else endsB g n (g s).2
theorem endsB_in{α:Type}(g:α→Bool×α):∀n s,endsB g n s=true→EndsIn g n s:=by
 intro n
 induction n with
 |zero=>intro s h;cases h
 |succ n ih=>
  intro s h
  unfold endsB at h
  by_cases hc:(g s).1=true
  ·exact .inl hc
  ·rw[if_neg hc]at h
   exact .inr (ih _ h)
theorem ends_all(f:Nat→Nat)(m:Nat)(hr:∀u t,u<m→t<m→∃n,it f n u=t)(g:Nat→Bool×Nat)(K t:Nat)(ht:t<m)(hg:∀u,∃b,0<b∧b≤K∧(g u).2=it f b u)(hK:∀k,k≤K→∃n,EndsIn g n (it f k t)):∀u,u<m→∃n,EndsIn g n u:=by
 have main:∀n u,it f n u=t→∃n,EndsIn g n u:=by
  intro n
  induction n using Nat.strongRecOn with
  |ind n ih=>
   intro u hu
   obtain⟨b,e,hbK,hb⟩:=hg u
   by_cases hle:b≤n
   ·obtain⟨j,hj⟩:=ih (n-b) (by omega) (it f b u) (by rw[←it_add,show b+(n-b)=n by omega];exact hu)
    exact⟨j+1,.inr (by rw[hb];exact hj)⟩
   ·obtain⟨j,hj⟩:=hK (b-n) (by omega)
    refine⟨j+1,.inr ?_⟩
    rw[hb,show b=n+(b-n) by omega,it_add,hu]
    exact hj
 intro u hu
 obtain⟨n,hn⟩:=hr u t hu ht
 exact main n u hn
def nx(u:Nat):Nat:=(u*6364136223846793005+1442695040888963407)%18446744073709551616
theorem ac_odd:Odd 6364136223846793005 1442695040888963407 18446744073709551616:=by unfold Odd;decide+kernel
theorem nx_reach:∀u t,u<18446744073709551616→t<18446744073709551616→∃n,it nx n u=t:=fun u t hu ht=>reach nx 6364136223846793005 1442695040888963407 18446744073709551616 (fun _=>rfl) (by decide) ac_odd u t hu ht
end Go.Proofs.YtnoagleifffkcaaGreatDoor.lcg

namespace Go.Proofs.YtnoagleifffkcaaGreatDoor.draw
open nd lcg
set_option linter.unusedVariables false
def xF(v:Nat):Nat:=((v/8589934592)^^^(v/35184372088832))%256
def sum1:List Nat→Nat
 |[]=>1
 |x::l=>x+sum1 l
def fastF(f x:Nat→Nat):Gen Nat Nat:=⟨fun n u=>(x (f u)%n,f u),fun _ l=>sum1 l⟩
section
variable {f x:Nat→Nat}
def Le(f:Nat→Nat)(u v k:Nat):Prop:=∃b,b≤k∧v=it f b u
theorem Le.refl(u:Nat):Le f u u 0:=⟨0,Nat.le_refl _,rfl⟩
theorem Le.trans{u v w a b:Nat}(h1:Le f u v a)(h2:Le f v w b):Le f u w (a+b):=by
 obtain⟨i,hi,rfl⟩:=h1
 obtain⟨j,hj,rfl⟩:=h2
 exact⟨i+j,by omega,(it_add f i j u).symm⟩
theorem Le.mono{u v a b:Nat}(h:Le f u v a)(hab:a≤b):Le f u v b:=by
 obtain⟨x,hx,e⟩:=h
 exact⟨x,by omega,e⟩
theorem Le.one(n u:Nat):Le f u ((fastF f x).bl n u).2 1:=⟨1,Nat.le_refl _,rfl⟩
theorem Le.then{u v n a:Nat}(h:Le f ((fastF f x).bl n u).2 v a):Le f u v (1+a):=(Le.one (x:=x) n u).trans h
def Adv(f:Nat→Nat)(k:Nat)(E:Nat→Nat×Nat):Prop:=∀u,Le f u (E u).2 k
theorem adv_pk(L:List ByteArray)(u:Nat):Le f u (pkG (fastF f x) L u).2 1:=Le.one (x:=x) L.length u
theorem adv_pi(L:List Int)(u:Nat):Le f u (piG (fastF f x) L u).2 1:=Le.one (x:=x) L.length u
theorem adv_word:Adv f 1 (wordG (fastF f x)):=fun u=>Le.one (x:=x) l2WordL.length u
theorem adv_leaf:Adv f 3 (leafG (fastF f x)):=by
 intro u
 unfold leafG
 dsimp only
 refine Le.mono (Le.then (x:=x) (n:=7) (a:=2) ?_) (by omega)
 generalize ((fastF f x).bl 7 u).1=b
 rcases b with _|_|_|b
 ·exact(adv_pk (x:=x) l4NumL _).mono (by omega)
 ·exact(adv_pk (x:=x) l4StrL _).mono (by omega)
 ·show Le f _ (if((fastF f x).bl 2 ((fastF f x).bl 7 u).2).1=0 then _ else _:Nat×Nat).2 _
  split
  ·exact Le.then (x:=x) (n:=2) (adv_pk (x:=x) l4EreL _)
  ·exact Le.then (x:=x) (n:=2) (adv_word (x:=x) _)
 ·exact(adv_word (x:=x) _).mono (by omega)
theorem adv_times{k:Nat}{E:Nat→Nat×Nat}(h:Adv f k E):∀n u,Le f u (timesG E n u).2 (n*k):=by
 intro n
 induction n with
 |zero=>intro u;exact(Le.refl u).mono (Nat.zero_le _)
 |succ n ih=>intro u;exact((h u).trans (ih _)).mono (by rw[Nat.succ_mul];omega)
theorem fast_lt(n u:Nat)(hn:0<n):((fastF f x).bl n u).1<n:=Nat.mod_lt _ hn
theorem adv_list{k:Nat}{E:Nat→Nat×Nat}(h:Adv f k E)(least most:Nat)(hl:least≤most)(u:Nat):Le f u (listG (fastF f x) E least most u).2 (1+most*k):=by
 unfold listG
 refine Le.then (x:=x) (n:=most-least+1) ((adv_times h _ _).mono (Nat.mul_le_mul_right k ?_))
 have:=fast_lt (f:=f) (x:=x) (most-least+1) u (by omega)
 omega
theorem adv_lval{k:Nat}{E1 E2:Nat→Nat×Nat}(h1:Adv f k E1)(h2:Adv f k E2):Adv f (2+k) (lvalG (fastF f x) E1 E2):=by
 intro u
 unfold lvalG
 dsimp only
 refine Le.mono (Le.then (x:=x) (n:=4) (a:=1+k) ?_) (by omega)
 generalize ((fastF f x).bl 4 u).1=b
 rcases b with _|_|b
 ·exact(adv_pk (x:=x) l2WordL _).trans (h1 _)
 ·exact(h2 _).mono (by omega)
 ·exact(adv_word (x:=x) _).mono (by omega)
theorem adv_step{k:Nat}{E1 E2 E3:Nat→Nat×Nat}(h1:Adv f k E1)(h2:Adv f k E2)(h3:Adv f k E3):Adv f (5+3*k) (stepG (fastF f x) E1 E2 E3):=by
 intro u
 unfold stepG
 dsimp only
 refine Le.mono (Le.then (x:=x) (n:=2) (Le.then (x:=x) (n:=16) (a:=3+3*k) ?_)) (by omega)
 generalize ((fastF f x).bl 2 u).1=z
 generalize ((fastF f x).bl 16 ((fastF f x).bl 2 u).2).1=b
 rcases b with _|_|_|_|_|_|_|_|_|_|_|_|b
 ·exact(adv_leaf (x:=x) _).mono (by omega)
 ·exact(adv_lval (x:=x) h1 h2 _).mono (by omega)
 ·exact(h1 _).mono (by omega)
 ·exact((adv_pk (x:=x) l2WordL _).trans (adv_list (x:=x) h1 0 3 (by omega) _)).mono (by omega)
 ·exact((adv_pk (x:=x) l7FnL _).trans (adv_list (x:=x) h2 0 3 (by omega) _)).mono (by omega)
 ·exact(adv_lval (x:=x) h2 h3 _).mono (by omega)
 ·exact(adv_lval (x:=x) h2 h3 _).mono (by omega)
 ·exact((adv_pi (x:=x) [56,55,61] _).trans (h1 _)).mono (by omega)
 ·exact((adv_pi (x:=x) [56,55,61] _).trans (h1 _)).mono (by omega)
 ·exact((adv_pk (x:=x) l2WordL _).trans (adv_list (x:=x) h1 1 2 (by omega) _)).mono (by omega)
 ·exact(((h1 _).trans (h1 _)).trans (h1 _)).mono (by omega)
 ·exact(((adv_pi (x:=x) [54,38,43] _).trans (adv_lval (x:=x) h2 h3 _)).trans (h1 _)).mono (by omega)
 ·exact(((adv_pi (x:=x) l7BinL _).trans (h1 _)).trans (h1 _)).mono (by omega)
def kE:Nat→Nat
 |0=>3
 |d+1=>5+3*kE d
theorem kE_up(d:Nat):kE d≤kE (d+1):=by simp only[kE];omega
theorem Adv.mono{a b:Nat}{E:Nat→Nat×Nat}(h:Adv f a E)(hab:a≤b):Adv f b E:=fun u=>(h u).mono hab
theorem adv_exprs:∀d,Adv f (kE d) (exprs (fastF f x) d).1∧Adv f (kE d) (exprs (fastF f x) d).2.1∧Adv f (kE d) (exprs (fastF f x) d).2.2:=by
 intro d
 induction d with
 |zero=>exact⟨adv_leaf (x:=x),adv_leaf (x:=x),adv_leaf (x:=x)⟩
 |succ d ih=>exact⟨adv_step ih.1 ih.2.1 ih.2.2,ih.1.mono (kE_up d),ih.2.1.mono (kE_up d)⟩
theorem adv_expr(d:Nat):Adv f (kE d) (exprG (fastF f x) d):=(adv_exprs d).1
theorem kE_le:∀{d e:Nat},d≤e→kE d≤kE e:=by
 intro d e h
 induction h with
 |refl=>exact Nat.le_refl _
 |step _ ih=>exact Nat.le_trans ih (kE_up _)
theorem adv_some(u:Nat):∃b,0<b∧b≤444∧(someG (fastF f x) u).2=it f b u:=by
 unfold someG
 have hlt:=fast_lt (f:=f) (x:=x) 4 u (by omega)
 obtain⟨b,hb,e⟩:=adv_expr (1+((fastF f x).bl 4 u).1) ((fastF f x).bl 4 u).2
 have hk:kE (1+((fastF f x).bl 4 u).1)≤kE 4:=kE_le (by omega)
 have h4:kE 4=443:=rfl
 refine⟨1+b,by omega,by omega, ?_⟩
 rw[e,it_add]
 rfl
theorem adv_maybe{k:Nat}{E:Nat→Nat×Nat}(h:Adv f k E):Adv f (1+k) (maybeG (fastF f x) E):=by
 intro u
 unfold maybeG
 refine Le.then (x:=x) (n:=3) ?_
 split
 ·exact(Le.refl _).mono (Nat.zero_le _)
 ·exact h _
theorem adv_simple{k m:Nat}{E0 E1:Nat→Nat×Nat}(h0:Adv f k E0)(h1:Adv f m E1):Adv f (5+3*k+2*m) (simpleG (fastF f x) E0 E1):=by
 intro u
 unfold simpleG
 dsimp only
 refine Le.mono (Le.then (x:=x) (n:=9) (a:=4+3*k+2*m) ?_) (by omega)
 have pr:∀y,Le f y
   (if((fastF f x).bl 3 (listG (fastF f x) E0 ((fastF f x).bl 2 y).1 3 ((fastF f x).bl 2 y).2).2).1=0 then
    ((fastF f x).nd ⟨21,(((fastF f x).bl 2 y).1:Int),⟨#[]⟩,(pkG (fastF f x) l7OutL ((fastF f x).bl 3 (listG (fastF f x) E0 ((fastF f x).bl 2 y).1 3 ((fastF f x).bl 2 y).2).2).2).1,[]⟩ ((listG (fastF f x) E0 ((fastF f x).bl 2 y).1 3 ((fastF f x).bl 2 y).2).1++[(E1 (pkG (fastF f x) l7OutL ((fastF f x).bl 3 (listG (fastF f x) E0 ((fastF f x).bl 2 y).1 3 ((fastF f x).bl 2 y).2).2).2).2).1]),(E1 (pkG (fastF f x) l7OutL ((fastF f x).bl 3 (listG (fastF f x) E0 ((fastF f x).bl 2 y).1 3 ((fastF f x).bl 2 y).2).2).2).2).2)
    else((fastF f x).nd (nodeO 21 (((fastF f x).bl 2 y).1:Int)) (listG (fastF f x) E0 ((fastF f x).bl 2 y).1 3 ((fastF f x).bl 2 y).2).1,((fastF f x).bl 3 (listG (fastF f x) E0 ((fastF f x).bl 2 y).1 3 ((fastF f x).bl 2 y).2).2).2)).2 (4+3*k+m):=by
  intro y
  have hlt:=fast_lt (f:=f) (x:=x) 2 y (by omega)
  have hl:=(Le.one (x:=x) 2 y).trans (adv_list (x:=x) h0 ((fastF f x).bl 2 y).1 3 (by omega) ((fastF f x).bl 2 y).2)
  have e:=hl.trans (Le.one (x:=x) 3 _)
  split
  ·exact((e.trans (adv_pk (x:=x) l7OutL _)).trans (h1 _)).mono (by omega)
  ·exact e.mono (by omega)
 generalize ((fastF f x).bl 9 u).1=b
 rcases b with _|_|_|_|_|_|b
 ·exact(pr _).mono (by omega)
 ·exact(pr _).mono (by omega)
 ·exact(adv_pi (x:=x) [22,25,26] _).mono (by omega)
 ·exact((adv_pi (x:=x) [23,24] _).trans (adv_list (x:=x) h0 0 1 (by omega) _)).mono (by omega)
 ·exact((adv_pk (x:=x) l2WordL _).trans (adv_list (x:=x) h1 0 2 (by omega) _)).mono (by omega)
 ·refine Le.mono (Le.then (x:=x) (n:=2) (a:=1+k) ?_) (by omega)
  show Le f _ (if((fastF f x).bl 2 ((fastF f x).bl 9 u).2).1=0 then _ else _:Nat×Nat).2 _
  split
  ·exact(adv_pk (x:=x) l7NoteL _).mono (by omega)
  ·exact(h0 _).mono (by omega)
 ·exact(h0 _).mono (by omega)
theorem adv_block{k:Nat}{S:Nat→Nat×Nat}(h:Adv f k S):Adv f (1+2*k) (blockG (fastF f x) S):=by
 intro u
 unfold blockG
 have hlt:=fast_lt (f:=f) (x:=x) 3 u (by omega)
 exact Le.then (x:=x) (n:=3) ((adv_times h _ _).mono (Nat.mul_le_mul_right k (by omega)))
def kC(a b k:Nat):Nat:=1+max (a+2*k) (3+2*a+b+k)
theorem adv_comp{a b k:Nat}{A1 A2 B:Nat→Nat×Nat}(h1:Adv f a A1)(h2:Adv f b A2)(hb:Adv f k B):Adv f (kC a b k) (compG (fastF f x) A1 A2 B):=by
 intro u
 unfold compG kC
 dsimp only
 refine Le.then (x:=x) (n:=6) ?_
 generalize ((fastF f x).bl 6 u).1=c
 rcases c with _|_|_|_|_|c
 ·exact((h1 _).trans (hb _)).mono (by omega)
 ·exact(((h1 _).trans (hb _)).trans (hb _)).mono (by omega)
 ·exact((h1 _).trans (hb _)).mono (by omega)
 ·exact((hb _).trans (h1 _)).mono (by omega)
 ·exact((((adv_maybe (x:=x) h2 _).trans (adv_maybe (x:=x) h1 _)).trans (adv_maybe (x:=x) h1 _)).trans (hb _)).mono (by omega)
 ·refine Le.mono (Le.then (x:=x) (n:=2) (a:=2+k) ?_) (by omega)
  show Le f _ (if((fastF f x).bl 2 ((fastF f x).bl 6 u).2).1=0 then _ else _:Nat×Nat).2 _
  split
  ·exact(hb _).mono (by omega)
  ·exact(((adv_pk (x:=x) l2WordL _).trans (adv_pk (x:=x) l2WordL _)).trans (hb _)).mono (by omega)
def kS:Nat→Nat
 |0=>20
 |d+1=>1+max (kC 14 47 (1+2*kS d)) (5+3*kE (min (d+1) 2)+2*kE (min (d+1) 2-1))
theorem adv_stmt:∀d,Adv f (kS d) (stmtG (fastF f x) d):=by
 intro d
 induction d with
 |zero=>exact adv_simple (adv_expr 0) (adv_expr 0)
 |succ d ih=>
  intro u
  unfold stmtG kS
  refine Le.then (x:=x) (n:=3) ?_
  split
  ·exact(adv_comp (x:=x) (adv_expr 1) (adv_expr 2) (adv_block (x:=x) ih) _).mono (Nat.le_max_left _ _)
  ·exact(adv_simple (x:=x) (adv_expr _) (adv_expr _) _).mono (Nat.le_max_right _ _)
theorem adv_item:Adv f 1060 (itemG (fastF f x)):=by
 intro u
 unfold itemG
 dsimp only
 have hlt:=fast_lt (f:=f) (x:=x) 2 u (by omega)
 refine Le.mono (Le.then (x:=x) (n:=2) (Le.then (x:=x) (n:=8) (a:=1058) ?_)) (by omega)
 have k0:kE 0=3:=rfl
 have k1:kE 1=14:=rfl
 have k2:kE 2=47:=rfl
 have s1:kS 1=121:=rfl
 have s2:kS 2=502:=rfl
 have hE:∀y,Le f y (exprG (fastF f x) (1+((fastF f x).bl 2 u).1) y).2 47:=fun y=>(adv_expr _ y).mono (by
  rcases(show((fastF f x).bl 2 u).1=0∨((fastF f x).bl 2 u).1=1 by omega)with e|e<;>rw[e]<;>decide)
 have hB:∀y,Le f y (blockG (fastF f x) (stmtG (fastF f x) (1+((fastF f x).bl 2 u).1)) y).2 1005:=fun y=>(adv_block (x:=x) (adv_stmt _) y).mono (by
  rcases(show((fastF f x).bl 2 u).1=0∨((fastF f x).bl 2 u).1=1 by omega)with e|e<;>rw[e]<;>decide)
 have h1:∀y,Le f y (exprG (fastF f x) 1 y).2 14:=fun y=>adv_expr 1 y
 generalize 1+((fastF f x).bl 2 u).1=d at hE hB⊢
 generalize ((fastF f x).bl 8 ((fastF f x).bl 2 u).2).1=b
 rcases b with _|_|_|_|_|_|_|b
 ·exact((Le.one (x:=x) 2 _).trans (hB _)).mono (by omega)
 ·exact(hE _).mono (by omega)
 ·exact(hB _).mono (by omega)
 ·exact((h1 _).trans (h1 _)).mono (by omega)
 ·exact(((h1 _).trans (h1 _)).trans (hB _)).mono (by omega)
 ·have hn:=fast_lt (f:=f) (x:=x) 3 ((fastF f x).bl 8 ((fastF f x).bl 2 u).2).2 (by omega)
  have hw:=((Le.one (f:=f) (x:=x) 3 ((fastF f x).bl 8 ((fastF f x).bl 2 u).2).2).trans (adv_times (adv_word (f:=f) (x:=x)) ((fastF f x).bl 3 ((fastF f x).bl 8 ((fastF f x).bl 2 u).2).2).1 _)).mono (show _≤3 by omega)
  exact((hw.trans (adv_pk (x:=x) l7NameL _)).trans (hB _)).mono (by omega)
 ·exact(adv_pk (x:=x) l7TopL _).mono (by omega)
 ·exact((hE _).trans (hB _)).mono (by omega)
theorem adv_prog(u:Nat):∃b,0<b∧b≤3181∧(progG (fastF f x) u).2=it f b u:=by
 unfold progG
 have hlt:=fast_lt (f:=f) (x:=x) 4 u (by omega)
 obtain⟨b,hb,e⟩:=adv_times (adv_item (f:=f) (x:=x)) ((fastF f x).bl 4 u).1 ((fastF f x).bl 4 u).2
 refine⟨1+b,by omega,by have:=Nat.mul_le_mul_right 1060 (show((fastF f x).bl 4 u).1≤3 by omega);omega, ?_⟩
 dsimp only
 rw[e,it_add]
 rfl
end
def fast:Gen Nat Nat:=fastF nx xF
def rd(n:Nat)(r:Nat×Nat):Bool×Nat:=(Nat.ble r.1 n,r.2)
theorem rd_2(n:Nat)(r:Nat×Nat):(rd n r).2=r.2:=rfl
def fSome(u:Nat):Bool×Nat:=rd 60 (someG fast u)
def fProg(u:Nat):Bool×Nat:=rd 220 (progG fast u)
def chk(q:Nat→Nat)(f:Nat→Bool×Nat)(N:Nat):Nat→Nat→Bool
 |0,u=>true
 |n+1,u=>if endsB f N u then chk q f N n (q u)else false
theorem chk_all(q:Nat→Nat)(f:Nat→Bool×Nat)(N:Nat):∀n u,chk q f N n u=true→∀k,k<n→EndsIn f N (it q k u):=by
 intro n
 induction n with
 |zero=>intro u _ k hk;omega
 |succ n ih=>
  intro u h k hk
  unfold chk at h
  by_cases hc:endsB f N u=true
  ·rw[if_pos hc]at h
   cases k with
   |zero=>exact endsB_in f N u hc
   |succ k=>exact ih (q u) h k (by omega)
  ·rw[if_neg hc]at h;cases h
end Go.Proofs.YtnoagleifffkcaaGreatDoor.draw

namespace Go.Proofs.YtnoagleifffkcaaGreatDoor.draw
open nd lcg
theorem chk_some:chk nx fSome 40 445 0=true:=by decide+kernel
theorem some_next(u:Nat):∃b,0<b∧b≤444∧(fSome u).2=it nx b u:=by
 obtain⟨b,h0,h1,e⟩:=adv_some (f:=nx) (x:=xF) u
 unfold fSome fast
 rw[rd_2]
 exact⟨b,h0,h1,e⟩
theorem some_ends(u:Nat)(hu:u<18446744073709551616):∃n,EndsIn fSome n u:=
 ends_all nx 18446744073709551616 nx_reach fSome 444 0 (Nat.two_pow_pos 64) some_next (fun k hk=>⟨40,chk_all nx fSome 40 445 0 chk_some k (Nat.lt_succ_of_le hk)⟩) u hu
end Go.Proofs.YtnoagleifffkcaaGreatDoor.draw

namespace Go.Proofs.YtnoagleifffkcaaGreatDoor.draw
open nd lcg
theorem chk_prog:chk nx fProg 40 3182 0=true:=by decide+kernel
theorem prog_next(u:Nat):∃b,0<b∧b≤3181∧(fProg u).2=it nx b u:=by
 obtain⟨b,h0,h1,e⟩:=adv_prog (f:=nx) (x:=xF) u
 unfold fProg fast
 rw[rd_2]
 exact⟨b,h0,h1,e⟩
theorem prog_ends(u:Nat)(hu:u<18446744073709551616):∃n,EndsIn fProg n u:=
 ends_all nx 18446744073709551616 nx_reach fProg 3181 0 (Nat.two_pow_pos 64) prog_next (fun k hk=>⟨40,chk_all nx fProg 40 3182 0 chk_prog k (Nat.lt_succ_of_le hk)⟩) u hu
end Go.Proofs.YtnoagleifffkcaaGreatDoor.draw

namespace Go.Proofs.YtnoagleifffkcaaGreatDoor.draw
open nd lcg
set_option linter.unusedVariables false
def exactG(zs:List Int):Gen St (List Nd):=⟨fun n s=>((belowF zs n s).1.toNat,(belowF zs n s).2),makeT⟩
theorem wrap_low(z:Nat):IntKind.i64.wrap (z:Int)%256=((z%256:Nat):Int):=by
 rw[IntKind.wrap_i64,Int.natCast_emod]
 generalize (z:Int)=y
 omega
theorem xor_low(a b:Int)(x y:Nat)(ha:(a%18446744073709551616).toNat%256=x%256)(hb:(b%18446744073709551616).toNat%256=y%256):bits .xor .i64 a b%256=(((x^^^y)%256:Nat):Int):=by
 have low:∀(p q:Nat),(p^^^q)%256=(p%256)^^^(q%256):=fun p q=>Nat.xor_mod_two_pow (a:=p) (b:=q) (n:=8)
 have hm:((2^64:Nat):Int)=18446744073709551616:=by decide
 have key:(BitVec.ofInt 64 a^^^BitVec.ofInt 64 b).toNat%256=(x^^^y)%256:=by
  rw[BitVec.toNat_xor,BitVec.toNat_ofInt,BitVec.toNat_ofInt,hm,low,ha,hb,←low]
 show IntKind.i64.wrap ((BitVec.ofInt 64 a^^^BitVec.ofInt 64 b).toNat:Nat)%256=_
 rw[←key]
 exact wrap_low _
theorem rx_low(h:Int)(u:Nat)(hu:(u:Int)=h%18446744073709551616):rx h%256=((xF u:Nat):Int):=by
 unfold rx xF
 refine xor_low _ _ (u/8589934592) (u/35184372088832) ?_ ?_<;>omega
def AtU(zs:List Int)(i:Nat)(s:St)(u:Nat):Prop:=s.1=i∧zs.length≤i∧(u:Int)=s.2%18446744073709551616
theorem step_low(h a c:Int)(u v:Nat)(hv:(v:Int)=((u:Int)*a+c)%18446744073709551616)(hu:(u:Int)=h%18446744073709551616):(v:Int)=(h*a+c)%18446744073709551616:=by
 rw[hv,hu,Int.add_emod,Int.mul_emod,Int.emod_emod,←Int.mul_emod,←Int.add_emod]
theorem nh_low(h:Int)(u:Nat)(hu:(u:Int)=h%18446744073709551616):((nx u:Nat):Int)=nh h%18446744073709551616:=by
 have e:nh h%18446744073709551616=(h*6364136223846793005+1442695040888963407)%18446744073709551616:=by
  unfold nh Go.RowKit.wrap64
  generalize h*6364136223846793005=z
  omega
 rw[e]
 refine step_low h _ _ u (nx u) ?_ hu
 unfold nx
 simp only[Int.natCast_emod,Int.natCast_add,Int.natCast_mul,Int.cast_ofNat_Int]
theorem makeT_len(n:Nd)(ps:List (List Nd)):(makeT n ps).length=sumL ps+1:=by
 unfold makeT
 rw[List.length_append,makeGo_len]
 simp
theorem exact_fastF(f x:Nat→Nat)(hf:∀(h:Int) (u:Nat),(u:Int)=h%18446744073709551616→((f u:Nat):Int)=nh h%18446744073709551616)(hx:∀(h:Int) (u:Nat),(u:Int)=h%18446744073709551616→rx h%256=((x u:Nat):Int))(zs:List Int)(i:Nat):Step (exactG zs) (fastF f x) (AtU zs i) (fun q n=>q.length=n):=by
 refine⟨fun n s u h0 h1 h=> ?_,fun n l k h=> ?_⟩
 ·obtain⟨hi,hz,hu⟩:=h
  have e:belowF zs (n:Int) s=(rx (nh s.2)%256%n,(s.1,nh s.2)):=by
   unfold belowF
   rw[if_neg (by omega),if_pos (by omega),byteF_no (by omega)]
  have hn:=hf s.2 u hu
  have hx:=hx (nh s.2) (f u) hn
  refine⟨?_, ?_⟩
  ·show(belowF zs (n:Int) s).1.toNat=x (f u)%n
   rw[e,hx]
   exact Int.toNat_natCast _
  ·show AtU zs i (belowF zs (n:Int) s).2 (f u)
   rw[e]
   exact⟨hi,hz,hn⟩
 ·show(makeT n l).length=sum1 k
  rw[makeT_len]
  induction h with
  |nil=>rfl
  |cons hq _ ih=>simp only[sumL,sum1];rw[hq,←ih];omega
theorem exact_fast(zs:List Int)(i:Nat):Step (exactG zs) fast (AtU zs i) (fun q n=>q.length=n):=exact_fastF nx xF nh_low rx_low zs i
def rdE(n:Nat)(E:St→List Nd×St)(s:St):Bool×St:=(Nat.ble (E s).1.length n,(E s).2)
theorem ends_behind(zs:List Int)(i n:Nat)(E:St→List Nd×St)(F:Nat→Nat×Nat)(h:Fn (AtU zs i) (fun q k=>q.length=k) E F):∀k s u,AtU zs i s u→EndsIn (fun u=>rd n (F u)) k u→EndsIn (rdE n E) k s:=by
 intro k
 induction k with
 |zero=>intro s u _ h;exact h
 |succ k ih=>
  intro s u hs he
  obtain⟨hq,hr⟩:=h s u hs
  rcases he with he|he
  ·refine .inl ?_
   show Nat.ble (E s).1.length n=true
   rw[hq]
   exact he
  ·exact .inr (ih _ _ hr he)
end Go.Proofs.YtnoagleifffkcaaGreatDoor.draw
