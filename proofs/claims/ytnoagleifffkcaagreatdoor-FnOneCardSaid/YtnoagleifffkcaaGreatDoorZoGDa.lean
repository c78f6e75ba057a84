/-

-/
import Derived.Test.YtnoagleifffkcaaGreatDoorRows
import Derived.Test.YtnoagleifffkcaaGreatDoorZoGBs
import Derived.WalkKit
import Derived.Laws.IdiomStrings
import Derived.Laws.OwnMore
import Derived.ProofKit
import Derived.OpenShut
import Derived.ChangeOld
import Derived.Below
import Derived.WalkSpells
import Derived.WalkLawsBesides
import Derived.BigQuiet
import Derived.Deep.QuietTactic
import Derived.RegionTactic
import Derived.StillTactics
import Derived.Lib.Strings
namespace Go.Proofs.YtnoagleifffkcaaGreatDoor
open Go.RowKit
set_option maxRecDepth 20000
theorem Tryz.infoByte:(Tryz.prog.info? 5).map (fun i=>(i.zero,i.size,i.bytes))=some (some (.int .u8 0),1,1):=by kernel_rfl
def cellsOf(l:List UInt8):List Value:=l.map (fun b=>Value.int .u8 (b.toNat:Int))
theorem cellsOf_snoc(l:List UInt8)(b:UInt8):cellsOf (l++[b])=cellsOf l++[.int .u8 (b.toNat:Int)]:=by simp[cellsOf]
theorem wpList_append_byte(w:World)(y:Int){ops:Array Oper}{rest:List Oper}{o:Oper}{a:Act}{Q:Exit→Act→World→Prop}(hgd:o.guard=none)(s x:Operand)
  (ho:o.op= .call {callee:= .builtin .append,args:= #[s,x],argTypes:= #[22,22]}) (base:Nat) (v:Value) (n:Nat) (l:List UInt8) (hs:a.eval s=v)
  (hown:w.ownsRow base 5 1 v n (cellsOf l)) (h0:0≤y) (h1:y<256) (hx:a.eval x= .slice (some ⟨w.heap.size,0,none⟩) 1 1) (hn:n<70368744177664) (hbase:base≤w.heap.size)
  (h:∀v' w',w'.ownsRow base 5 1 v' (n+1) (cellsOf (l++[UInt8.ofNat y.toNat]))→(∀W0,Below base W0 w→Below base W0 w')→wpList Tryz.prog ops Q rest (a.put o.dst v') w'):
  wpList Tryz.prog ops Q (o::rest) a (w.alloc (.cells #[.int .u8 y] 5)):=by
 obtain⟨i0,hi,F,G,e⟩:=info_parts Tryz.infoByte
 have ey:Value.int .u8 ((UInt8.ofNat y.toNat).toNat:Int)= .int .u8 y:=by
  congr 1
  simp
  omega
 refine wpList_append_own _ hgd s x 22 ho base 5 i0 (.int .u8 0) 1 1 Tryz.underlying22 hi F G e rfl (by decide) v n (cellsOf l) hs (hown.alloc _) ⟨w.heap.size,0,none⟩ 1 1 [.int .u8 y] hx rfl ?_ ?_ (by unfold maxLen;omega) (by omega) ?_ ?_
 ·intro j u hj
  match j,hj with
  |0,hj=>
   simp at hj
   subst hj
   simp[Addr.add]
 ·intro u hu
  simp at hu
  subst hu
  rfl
 ·have:(w.alloc (.cells #[.int .u8 y] 5)).heap.size=w.heap.size+1:=by simp
  omega
 ·intro v' w' hown' hg _
  refine h v' w' (by rw[cellsOf_snoc,ey];exact hown') fun W0 hb=> ?_
  have I:Below base W0 (w.alloc (.cells #[.int .u8 y] 5)):=hb.alloc hbase _
  refine I.grown hg (by simp;omega) ?_
  intro k hk
  rcases hown.2 with ⟨rfl,_⟩|⟨g,cap,cur,rfl,hb,_⟩
  ·cases hk
  ·simp[Value.ownBlock]at hk
   omega
end Go.Proofs.YtnoagleifffkcaaGreatDoor

namespace Go.Proofs.YtnoagleifffkcaaGreatDoor.draw
open Lib (hid)
open Go.ChangeShapes Go.WideShapes Go.ChangeAt Go.RowKit
set_option linter.unusedVariables false
def Cur(w:World)(p:Nat)(a:Option Addr)(len cap:Nat)(s:Nat×Int):Prop:=
 w.heap[p]? =some (.cells #[.slice a len cap,.int .i64 s.1,.int .i64 s.2] 81 (0,0))
def Code(B:Nat)(w:World)(a:Option Addr)(len:Nat)(zs:List Int):Prop:=
 zs.length=len∧(∀n∈zs,0≤n∧n<256)∧(len=0∨∃b o,a=some ⟨b,o,none⟩∧b<B∧∀j,j<len→w.cell? ⟨b,o+j,none⟩=some (.int .u8 (zs.getD j 0)))
structure In(B:Nat)(w:World)(p:Nat)(a:Option Addr)(len cap:Nat)(zs:List Int)(s:Nat×Int):Prop where
 code:Code B w a len zs
 cur:Cur w p a len cap s
 le:B≤p
 used:s.1≤len
 small:len≤1048576
theorem In.lt{B p len cap:Nat}{w:World}{a:Option Addr}{zs:List Int}{s:Nat×Int}(h:In B w p a len cap zs s):p<w.heap.size:=by
 rcases Nat.lt_or_ge p w.heap.size with h'|h'
 ·exact h'
 ·have:=h.cur
  unfold Cur at this
  rw[Array.getElem?_eq_none h']at this
  cases this
theorem grown_trans{a b c:World}{p:Nat}(h1:a.grownBy b (some p))(h2:b.grownBy c (some p)):a.grownBy c (some p):=
 ⟨h2.os.trans h1.os,h2.tape.trans h1.tape,h2.output.trans h1.output,Nat.le_trans h1.size h2.size,fun k hk hne=>(h2.block k (Nat.lt_of_lt_of_le hk h1.size) hne).trans (h1.block k hk hne)⟩
theorem below_of{B p:Nat}{w w':World}(h:w.grownBy w' (some p))(hp:B≤p)(hB:B≤w.heap.size):Below B w w':=
 (Below.refl B w).grown h hB (fun k hk=>by cases hk;exact hp)
theorem Code.keep{B len:Nat}{w w':World}{a:Option Addr}{zs:List Int}(h:Code B w a len zs)(hb:Below B w w'):Code B w' a len zs:=by
 refine⟨h.1,h.2.1, ?_⟩
 rcases h.2.2 with h0|⟨b,o,e,hB,hc⟩
 ·exact .inl h0
 ·exact .inr ⟨b,o,e,hB,fun j hj=>(hb.cell (p:=⟨b,o+j,none⟩) hB).trans (hc j hj)⟩
theorem i64_mask(k:Nat)(hk:k≤62)(n:Int):bits .and .i64 n ((2^k-1:Nat):Int)=n%2^k:=by
 have hle:2^k≤2^62:=Nat.pow_le_pow_right (by decide) hk
 have hpos:0<2^k:=Nat.two_pow_pos k
 have e:(BitVec.ofInt 64 ((2^k-1:Nat):Int)).toNat=2^k-1:=by
  rw[BitVec.ofInt_natCast,BitVec.toNat_ofNat]
  exact Nat.mod_eq_of_lt (by omega)
 have key:(BitVec.ofInt 64 n&&&BitVec.ofInt 64 ((2^k-1:Nat):Int)).toNat=(n%((2^64:Nat):Int)).toNat%2^k:=by
  rw[BitVec.toNat_and,BitVec.toNat_ofInt,e,Nat.and_two_pow_sub_one_eq_mod]
 show IntKind.i64.wrap ((BitVec.ofInt 64 n&&&BitVec.ofInt 64 ((2^k-1:Nat):Int)).toNat:Nat)=n%2^k
 rw[key]
 have hm:(((n%((2^64:Nat):Int)).toNat%2^k:Nat):Int)=n%2^k:=by
  have h0:0≤n%((2^64:Nat):Int):=Int.emod_nonneg _ (by decide)
  rw[Int.natCast_emod,Int.toNat_of_nonneg h0]
  have hd:((2:Int)^k)∣((2^64:Nat):Int):=by
   refine⟨2^(64-k), ?_⟩
   rw[←Int.pow_add,show k+(64-k)=64 by omega]
   rfl
  simpa using Int.emod_emod_of_dvd n hd
 rw[hm]
 have h1:0≤n%2^k:=Int.emod_nonneg _ (by have:(0:Int)<2^k:=Int.pow_pos (by omega);omega)
 have h2:n%2^k<2^k:=Int.emod_lt_of_pos _ (Int.pow_pos (by omega))
 have h3:(2:Int)^k=((2^k:Nat):Int):=by simp
 exact wraps_i64 _ h1 (by omega)
theorem i64_and255(n:Int):bits .and .i64 n 255=n%256:=i64_mask 8 (by decide) n
theorem i64_and30(n:Int):bits .and .i64 n 1073741823=n%1073741824:=i64_mask 30 (by decide) n
def nh(h:Int):Int:=wrap64 (wrap64 (h*6364136223846793005)+1442695040888963407)
def rx(h:Int):Int:=bits .xor .i64 (h/8589934592) (h/35184372088832)
def byteF(zs:List Int)(s:Nat×Int):Int×(Nat×Int):=
 if s.1<zs.length then((rx (nh s.2)+zs.getD s.1 0)%256,(s.1+1,nh s.2))else(rx (nh s.2)%256,(s.1,nh s.2))
theorem byteF_bd(zs:List Int)(s:Nat×Int):0≤(byteF zs s).1∧(byteF zs s).1<256:=by
 unfold byteF rx
 split<;>simp only<;>omega
theorem byteF_yes{zs:List Int}{s:Nat×Int}(h:s.1<zs.length):byteF zs s=((rx (nh s.2)+zs.getD s.1 0)%256,(s.1+1,nh s.2)):=by simp[byteF,h]
theorem byteF_no{zs:List Int}{s:Nat×Int}(h:¬s.1<zs.length):byteF zs s=(rx (nh s.2)%256,(s.1,nh s.2)):=by simp[byteF,h]
def Out(B:Nat)(p:Nat)(a:Option Addr)(len cap:Nat)(zs:List Int)(r:Value)(s':Nat×Int)(w:World)(e:Ending)(w':World):Prop:=
 e= .returned r∧In B w' p a len cap zs s'∧w.grownBy w' (some p)
theorem grown_set{w w1:World}{p j:Nat}(u:Value)(h:w.grownBy w1 (some p)):w.grownBy (w1.setCell ⟨p,j,none⟩ u) (some p):=
 ⟨h.os,h.tape,h.output,by simp;exact h.size,fun k hk hne=>by
  rw[heap_setCell_other w1 ⟨p,j,none⟩ k u (fun e=>hne (by rw[e]))]
  exact h.block k hk hne⟩
theorem In.mixed{B p len cap:Nat}{w:World}{a:Option Addr}{zs:List Int}{i:Nat}{h:Int}(H:In B w p a len cap zs (i,h))(h':Int)(n:Nat):
  In B ((w.setCell ⟨p,2,none⟩ (.int .i64 h')).drewN n) p a len cap zs (i,h')∧w.grownBy ((w.setCell ⟨p,2,none⟩ (.int .i64 h')).drewN n) (some p):=by
 have g:w.grownBy ((w.setCell ⟨p,2,none⟩ (.int .i64 h')).drewN n) (some p):=by
  have:=grown_set (j:=2) (.int .i64 h') (World.grownBy.refl w (some p))
  exact⟨this.os,this.tape,this.output,this.size,this.block⟩
 refine⟨⟨H.code.keep (below_of g H.le (Nat.le_of_lt (Nat.lt_of_le_of_lt H.le H.lt))), ?_,H.le,H.used,H.small⟩,g⟩
 exact heap_setCell_same w p 2 _ _ (.int .i64 h') H.cur
theorem In.drewN{B p len cap:Nat}{w:World}{a:Option Addr}{zs:List Int}{s:Nat×Int}(H:In B w p a len cap zs s)(n:Nat):In B (w.drewN n) p a len cap zs s:=
 ⟨H.code.keep ⟨rfl,rfl,rfl,Nat.le_refl _,fun _ _=>rfl⟩,H.cur,H.le,H.used,H.small⟩
theorem grown_drewN{w w1:World}{p:Nat}(h:w.grownBy w1 (some p))(n:Nat):w.grownBy (w1.drewN n) (some p):=⟨h.os,h.tape,h.output,h.size,h.block⟩
theorem In.used_up{B p len cap:Nat}{w:World}{a:Option Addr}{zs:List Int}{i:Nat}{h:Int}(H:In B w p a len cap zs (i,h))(i':Nat)(hi:i'≤len):
  In B (w.setCell ⟨p,1,none⟩ (.int .i64 i')) p a len cap zs (i',h)∧w.grownBy (w.setCell ⟨p,1,none⟩ (.int .i64 i')) (some p):=by
 have g:w.grownBy (w.setCell ⟨p,1,none⟩ (.int .i64 i')) (some p):=grown_set (j:=1) (.int .i64 (i':Int)) (World.grownBy.refl w (some p))
 refine⟨⟨H.code.keep (below_of g H.le (Nat.le_of_lt (Nat.lt_of_le_of_lt H.le H.lt))), ?_,H.le,hi,H.small⟩,g⟩
 exact heap_setCell_same w p 1 _ _ (.int .i64 (i':Int)) H.cur
set_option maxHeartbeats 400000 in
theorem byte_any{B p len cap:Nat}{w:World}{a:Option Addr}{zs:List Int}{s:Nat×Int}(H:In B w p a len cap zs s):
  Calls Tryz.prog 84 #[.pointer (some ⟨p,0,none⟩)] w (Out B p a len cap zs (.int .i64 (byteF zs s).1) (byteF zs s).2 w):=by
 obtain⟨i,h⟩:=s
 have HI:=hid H
 have hcur:=H.cur
 have hu:=H.used
 have hsm:=H.small
 have hzl:=H.code.1
 have y:w.cell? ⟨p,0,none⟩=some (.slice a len cap):=by rw[cell_of_row w p 0 _ _ _ hcur];rfl
 have I:w.cell? ⟨p,1,none⟩=some (.int .i64 (i:Int)):=by rw[cell_of_row w p 1 _ _ _ hcur];rfl
 have F:w.cell? ⟨p,2,none⟩=some (.int .i64 h):=by rw[cell_of_row w p 2 _ _ _ hcur];rfl
 have hf:∀j,w.frozen? ⟨p,j,none⟩=false:=fun j=>frozen_of_row w p j _ _ hcur
 have ha:=i64_and255
 simp only at hu
 by_cases hlt:i<len
 ·obtain⟨b,o,rfl,hbB,hcell⟩:∃b o,a=some ⟨b,o,none⟩∧b<B∧∀j,j<len→w.cell? ⟨b,o+j,none⟩=some (.int .u8 (zs.getD j 0)):=by
   rcases H.code.2.2 with h0|h0
   ·omega
   ·exact h0
  have hcx:=hcell i hlt
  have hbp:b≠p:=by have:=H.le;omega
  have HZ:=hid (byteF_yes (zs:=zs) (s:=(i,h)) (by rw[hzl];exact hlt))
  have hz:0≤zs.getD i 0∧zs.getD i 0<256:=by
   have:i<zs.length:=by omega
   rw[List.getD_eq_getElem?_getD,List.getElem?_eq_getElem this]
   exact H.code.2.1 _ (List.getElem_mem this)
  obtain⟨z,hzz⟩:∃z,z=zs.getD i 0:=⟨_,rfl⟩
  have HZZ:=hid hzz
  rw[←hzz]at hcx hz
  have G:(0:Int)≤(i:Int):=by omega
  have e:(i:Int)<(len:Int):=by omega
  clear hcur hcell hzl H hzz
  go_enter Tryz.func84,Tryz.ntmps84
  go_wp2
  go_quiet (fail)
  go_wp2
  go_quiet (fail)
  go_wp2
  go_quiet (fail)
  go_wp2
  go_ret
  exact⟨by rw[HZ.out,←HZZ.out];rfl,by rw[HZ.out];exact((HI.mixed (nh h) _).1.used_up (i+1) (by omega)).1,grown_trans (HI.mixed (nh h) _).2 ((HI.mixed (nh h) _).1.used_up (i+1) (by omega)).2⟩
 ·have HZ:=hid (byteF_no (zs:=zs) (s:=(i,h)) (by rw[hzl];exact hlt))
  have hnl:¬(i:Int)<(len:Int):=by omega
  clear hcur hzl H
  go_enter Tryz.func84,Tryz.ntmps84
  go_wp2
  go_quiet (fail)
  go_wp2
  go_quiet (fail)
  go_wp2
  go_ret
  exact⟨by rw[HZ.out];rfl,by rw[HZ.out];exact(HI.mixed (nh h) _).1.drewN _,grown_drewN (HI.mixed (nh h) _).2 _⟩
def belowF(zs:List Int)(n:Int)(s:Nat×Int):Int×(Nat×Int):=
 if n≤0 then(0,s)else if n≤256 then((byteF zs s).1%n,(byteF zs s).2)
 else
  let x:=byteF zs s
  let y:=byteF zs x.2
  let z:=byteF zs y.2
  let v:=byteF zs z.2
  ((x.1*16777216+y.1*65536+z.1*256+v.1)%n,v.2)
theorem belowF_bd(zs:List Int)(n:Int)(s:Nat×Int)(h:0<n):0≤(belowF zs n s).1∧(belowF zs n s).1<n:=by
 unfold belowF
 rw[if_neg (by omega)]
 split
 ·exact⟨Int.emod_nonneg _ (by omega),Int.emod_lt_of_pos _ h⟩
 ·exact⟨Int.emod_nonneg _ (by omega),Int.emod_lt_of_pos _ h⟩
set_option maxHeartbeats 800000 in
theorem below_any{B p len cap:Nat}{w:World}{a:Option Addr}{zs:List Int}{s:Nat×Int}(n:Int)(H:In B w p a len cap zs s):
  Calls Tryz.prog 48 #[.pointer (some ⟨p,0,none⟩),.int .i64 n] w (Out B p a len cap zs (.int .i64 (belowF zs n s).1) (belowF zs n s).2 w):=by
 have HI:=hid H
 clear H
 by_cases h0:n≤0
 ·have HZ:=hid (show belowF zs n s=(0,s) by simp[belowF,h0])
  go_enter Tryz.func48,Tryz.ntmps48
  go_wp2
  go_ret
  exact⟨by rw[HZ.out];rfl,by rw[HZ.out];exact HI.out,World.grownBy.refl _ _⟩
 ·have hn:0<n:=by omega
  by_cases h1:n≤256
  ·have HZ:=hid (show belowF zs n s=((byteF zs s).1%n,(byteF zs s).2) by simp[belowF,h0,h1])
   have hb:=byteF_bd zs s
   go_enter Tryz.func48,Tryz.ntmps48
   go_wp2_with fail
   refine(byte_any HI.out).mono ?_
   rintro e w1 ⟨rfl,I1,G1⟩
   have j:=hid I1
   clear I1
   go_wp2
   go_ret
   exact⟨by rw[HZ.out];rfl,by rw[HZ.out];exact j.out,G1⟩
  ·obtain⟨x,hx⟩:∃x,x=byteF zs s:=⟨_,rfl⟩
   obtain⟨y,hy⟩:∃y,y=byteF zs x.2:=⟨_,rfl⟩
   obtain⟨z,hz⟩:∃z,z=byteF zs y.2:=⟨_,rfl⟩
   obtain⟨v,hv⟩:∃v,v=byteF zs z.2:=⟨_,rfl⟩
   have HZ:=hid (show belowF zs n s=((x.1*16777216+y.1*65536+z.1*256+v.1)%n,v.2) by subst hv hz hy hx;simp[belowF,h0,h1])
   have b1:=byteF_bd zs s
   have b2:=byteF_bd zs x.2
   have b3:=byteF_bd zs y.2
   have b4:=byteF_bd zs z.2
   rw[←hx]at b1
   rw[←hy]at b2
   rw[←hz]at b3
   rw[←hv]at b4
   have HX:=hid hx
   have HY:=hid hy
   have F:=hid hz
   have HV:=hid hv
   clear hx hy hz hv
   go_enter Tryz.func48,Tryz.ntmps48
   go_wp2_with fail
   refine(byte_any HI.out).mono ?_
   rintro e w1 ⟨he,I1,G1⟩
   rw[←HX.out]at he I1
   subst he
   have j:=hid I1
   clear I1
   go_wp2_with fail
   refine(byte_any j.out).mono ?_
   rintro e w2 ⟨he,I2,G2⟩
   rw[←HY.out]at he I2
   subst he
   have I:=hid I2
   clear I2
   go_wp2_with fail
   refine(byte_any I.out).mono ?_
   rintro e w3 ⟨he,I3,G3⟩
   rw[←F.out]at he I3
   subst he
   have G:=hid I3
   clear I3
   go_wp2_with fail
   refine(byte_any G.out).mono ?_
   rintro e w4 ⟨he,I4,G4⟩
   rw[←HV.out]at he I4
   subst he
   have J:=hid I4
   clear I4
   go_wp2
   go_ret
   exact⟨by rw[HZ.out];rfl,by rw[HZ.out];exact J.out,grown_trans (grown_trans (grown_trans G1 G2) G3) G4⟩
end Go.Proofs.YtnoagleifffkcaaGreatDoor.draw

namespace Go.Proofs.YtnoagleifffkcaaGreatDoor.draw
open Lib (hid)
open Go.ChangeShapes Go.WideShapes Go.ChangeAt Go.RowKit
set_option linter.unusedVariables false
def hF(zs:List Int)(len:Nat):Int:=(zs.take 4000).foldl (fun h z=>(h*131+z+7)%1073741824) (10101+(len:Int))
theorem hF_step(zs:List Int)(len I:Nat)(hI:I<zs.length):
  (zs.take (I+1)).foldl (fun h z=>(h*131+z+7)%1073741824) (10101+(len:Int))=((zs.take I).foldl (fun h z=>(h*131+z+7)%1073741824) (10101+(len:Int))*131+zs.getD I 0+7)%1073741824:=by
 rw[List.take_succ_eq_append_getElem hI,List.foldl_append,List.getD_eq_getElem?_getD,List.getElem?_eq_getElem hI]
 rfl
def RelNew(zs:List Int)(len:Nat)(h i:Value):Prop:=∃(I:Nat) (x:Int),I≤len∧I≤4000∧i= .int .i64 I∧h= .int .i64 x∧0≤x∧x<1099511627776∧x=(zs.take I).foldl (fun h z=>(h*131+z+7)%1073741824) (10101+(len:Int))
set_option maxHeartbeats 400000 in
theorem new_any{B len cap:Nat}{w:World}{a:Option Addr}{zs:List Int}(hc:Code B w a len zs)(hB:B≤w.heap.size)(hl:len≤1048576):
  Calls Tryz.prog 21 #[.slice a len cap] w fun e w'=>e= .returned (.pointer (some ⟨w.heap.size,0,none⟩))∧In B w' w.heap.size a len cap zs (0,hF zs len)∧Below B w w':=by
 have HC:=hid hc
 have hz:=hc.1
 have hm:=i64_and30
 go_enter Tryz.func21,Tryz.ntmps21
 go_wp2
 go_loop [3,4] (fun h i=>RelNew zs len h i) (fun _ i=>(len-(intOf i).toNat))
 case atStart=>exact⟨0,_,by omega,by omega,rfl,rfl,by omega,by omega,rfl⟩
 case round=>
  obtain⟨I,x,hI,K,rfl,rfl,J,O,hx⟩:=hrel
  have HX:=hid hx
  clear hx
  by_cases hlt:I<len∧I<4000
  ·obtain⟨hll,G⟩:=hlt
   obtain⟨b,o,rfl,hbB,hcell⟩:∃b o,a=some ⟨b,o,none⟩∧b<B∧∀j,j<len→w.cell? ⟨b,o+j,none⟩=some (.int .u8 (zs.getD j 0)):=by
    rcases HC.out.2.2 with h0|h0
    ·omega
    ·exact h0
   have hcx:=hcell I hll
   have hzb:0≤zs.getD I 0∧zs.getD I 0<256:=by
    have:I<zs.length:=by omega
    rw[List.getD_eq_getElem?_getD,List.getElem?_eq_getElem this]
    exact HC.out.2.1 _ (List.getElem_mem this)
   have HS:=hid (hF_step zs len I (by omega))
   obtain⟨z,hzz⟩:∃z,z=zs.getD I 0:=⟨_,rfl⟩
   have HZZ:=hid hzz
   rw[←hzz]at hcx hzb
   have y:(I:Int)<(len:Int):=by omega
   have F:(I:Int)<4000:=by omega
   clear hcell hzz hz
   go_wp2
   go_round
   case rel=>exact⟨I+1,_,by omega,by omega,by go_num,rfl,by omega,by omega,by rw[HS.out,←HX.out,←HZZ.out]⟩
   case measure=>simp[intOf];omega
  ·have HH:=hid (show x=hF zs len by
    rw[HX.out]
    unfold hF
    congr 1
    by_cases h:I<len
    ·rw[show I=4000 by omega]
    ·rw[List.take_of_length_le (by omega),List.take_of_length_le (by omega)])
   have fin:In B (w.alloc (.cells #[.slice a len cap,.int .i64 0,.int .i64 x] 81)) w.heap.size a len cap zs (0,hF zs len)∧Below B w (w.alloc (.cells #[.slice a len cap,.int .i64 0,.int .i64 x] 81)):=by
    have hb:Below B w (w.alloc (.cells #[.slice a len cap,.int .i64 0,.int .i64 x] 81)):=(Below.refl B w).alloc hB _
    refine⟨⟨HC.keep hb, ?_,hB,by simp,hl⟩,hb⟩
    rw[←HH.out]
    exact heap_alloc_new w _
   have FIN:=hid fin
   clear fin hz
   by_cases hll:I<len
   ·have y:(I:Int)<(len:Int):=by omega
    have F:¬(I:Int)<4000:=by omega
    clear hlt
    go_wp2
    go_ret
    exact⟨rfl,FIN.out⟩
   ·have y:¬(I:Int)<(len:Int):=by omega
    clear hlt
    go_wp2
    go_ret
    exact⟨rfl,FIN.out⟩
theorem once_any{B p len cap:Nat}{w:World}{a:Option Addr}{zs:List Int}{s:Nat×Int}(n:Int)(H:In B w p a len cap zs s):
  Calls Tryz.prog 45 #[.pointer (some ⟨p,0,none⟩),.int .i64 n] w (Out B p a len cap zs (.bool ((belowF zs n s).1==0)) (belowF zs n s).2 w):=by
 have HI:=hid H
 clear H
 go_enter Tryz.func45,Tryz.ntmps45
 go_wp2_with fail
 refine(below_any n HI.out).mono ?_
 rintro e w1 ⟨rfl,I1,G1⟩
 have j:=hid I1
 clear I1
 go_wp2
 go_ret
 exact⟨rfl,j.out,G1⟩
set_option maxHeartbeats 400000 in
theorem pickInt_any{B p len cap:Nat}{w:World}{a:Option Addr}{zs:List Int}{s:Nat×Int}(q n:Nat)(L:List Int)(H:In B w p a len cap zs s)(hq:w.heap[q]? =some (.cells (L.map (Value.int .i64)).toArray 3 (0,0)))(hL:L.length=n)(hn:0<n)(hqp:q≠p)(hbig:n≤1000):
  Calls Tryz.prog 49 #[.pointer (some ⟨p,0,none⟩),.slice (some ⟨q,0,none⟩) n n] w (Out B p a len cap zs (.int .i64 (L.getD (belowF zs n s).1.toNat 0)) (belowF zs n s).2 w):=by
 have HI:=hid H
 clear H
 have hb:=belowF_bd zs n s (by omega)
 obtain⟨K,hK⟩:∃K:Nat,(belowF zs n s).1=K:=⟨(belowF zs n s).1.toNat,by omega⟩
 have HK:=hid hK
 rw[hK]at hb
 have HQ:=hid hq
 clear hq hK
 go_enter Tryz.func49,Tryz.ntmps49
 go_wp2_with fail
 refine(below_any n HI.out).mono ?_
 rintro e w1 ⟨he,I1,G1⟩
 rw[HK.out]at he
 subst he
 have y:=hid I1
 have j:w1.heap[q]? =some (.cells (L.map (Value.int .i64)).toArray 3 (0,0)):=by
  have hlt:q<w.heap.size:=lt_of_block HQ.out
  rw[G1.block q hlt (by simpa using hqp)]
  exact HQ.out
 have hcell:w1.cell? ⟨q,K,none⟩=some (.int .i64 (L.getD K 0)):=by
  rw[cell_of_row w1 q K _ _ _ j]
  have:K<L.length:=by omega
  simp[this]
 obtain⟨z,hz⟩:∃z,z=L.getD K 0:=⟨_,rfl⟩
 have HZ:=hid hz
 rw[←hz]at hcell
 clear I1 j hz
 go_wp2
 go_ret
 exact⟨by rw[HK.out,Int.toNat_natCast,←HZ.out];rfl,y.out,G1⟩
theorem In.keep{B base p len cap:Nat}{w w':World}{a:Option Addr}{zs:List Int}{s:Nat×Int}(H:In B w p a len cap zs s)(hb:Below base w w')(hp:p<base):In B w' p a len cap zs s:=
 ⟨H.code.keep (hb.mono (Nat.le_of_lt (Nat.lt_of_le_of_lt H.le hp))),by unfold Cur;rw[hb.block p hp];exact H.cur,H.le,H.used,H.small⟩
theorem grown_below{w w1 w2:World}{p base:Nat}(h:w.grownBy w1 (some p))(hb:Below base w1 w2)(hw:base=w.heap.size):w.grownBy w2 (some p):=
 ⟨hb.os.trans h.os,hb.tape.trans h.tape,hb.output.trans h.output,Nat.le_trans h.size hb.size,fun k hk hne=>(hb.block k (by omega)).trans (h.block k hk hne)⟩
end Go.Proofs.YtnoagleifffkcaaGreatDoor.draw

namespace Go.Proofs.YtnoagleifffkcaaGreatDoor.draw
open Go.ChangeShapes Go.WideShapes Go.ChangeAt Go.RowKit
set_option linter.unusedVariables false
def IsRow(k:IntKind)(w:World)(a:Option Addr)(len cap:Nat)(zs:List Int):Prop:=
 (a=none∧len=0∧cap=0∧zs=[])∨
 ∃x,a=some x∧len≤cap∧cap≤maxLen∧zs.length=cap∧(∀i,i<zs.length→w.cell? (x.add i)=some (.int k (zs.getD i 0)))∧∀n∈zs,(Lit.int k n).wf=true
theorem code_of{w:World}{a:Option Addr}{len cap:Nat}{zs:List Int}(h:IsRow .u8 w a len cap zs):Code w.heap.size w a len (zs.take len):=by
 rcases h with ⟨rfl,rfl,rfl,rfl⟩|⟨x,rfl,hl,hm,hz,hc,hw⟩
 ·exact⟨rfl,by simp,.inl rfl⟩
 ·refine⟨by simp;omega, ?_, ?_⟩
  ·intro n hn
   have:=hw n (List.mem_of_mem_take hn)
   simp[Lit.wf,IntKind.min,IntKind.max,IntKind.signed,IntKind.bits]at this
   omega
  ·by_cases h0:len=0
   ·exact .inl h0
   ·refine .inr ?_
    obtain⟨b,o,sp⟩:=x
    have c0:=hc 0 (by omega)
    have hsp:sp=none:=by simpa [Addr.add]using World.cell?_spot c0
    subst hsp
    have e:∀j,(⟨b,o,none⟩:Addr).add j=⟨b,o+j,none⟩:=by
     intro j
     simp only[Addr.add]
     split
     ·next h0=>subst h0;rfl
     ·rfl
    refine⟨b,o,rfl,World.block_lt_of_cell? w _ c0, ?_⟩
    intro j hj
    have:=hc j (by omega)
    rw[e]at this
    rw[this,List.getD_eq_getElem?_getD,List.getD_eq_getElem?_getD,List.getElem?_take,if_pos hj]
theorem Code.up{B B' len:Nat}{w:World}{a:Option Addr}{zs:List Int}(h:Code B w a len zs)(hB:B≤B'):Code B' w a len zs:=by
 refine⟨h.1,h.2.1, ?_⟩
 rcases h.2.2 with h0|⟨b,o,e,hb,hc⟩
 ·exact .inl h0
 ·exact .inr ⟨b,o,e,by omega,hc⟩
theorem big_any(a:Option Addr)(len cap:Nat)(w:World)(hl:(len:Int)≤9223372036854775807):
  Calls Tryz.prog 5 #[.slice a len cap] w fun e w'=>e= .returned (.bool (decide (1048576<len)))∧w=w':=by
 by_cases h:1048576<len
 ·have h':(1048576:Int)<(len:Int):=by omega
  go_enter Tryz.func5,Tryz.ntmps5
  go_wp2
  go_ret
  exact⟨by simp[h],rfl⟩
 ·have h':¬(1048576:Int)<(len:Int):=by omega
  go_enter Tryz.func5,Tryz.ntmps5
  go_wp2
  go_ret
  exact⟨by simp,rfl⟩
end Go.Proofs.YtnoagleifffkcaaGreatDoor.draw

namespace Go.Proofs.YtnoagleifffkcaaGreatDoor.draw
open Lib (hid)
open Go.ChangeShapes Go.WideShapes Go.ChangeAt Go.RowKit
set_option linter.unusedVariables false
set_option linter.unusedSimpArgs false
set_option maxRecDepth 20000
theorem own_three(w:World):(w.alloc (.cells #[.int .u8 3] 5)).ownsRow w.heap.size 5 1 (.slice (some ⟨w.heap.size,0,none⟩) 1 1) 1 (cellsOf [3]):=by
 have:=World.ownsRow_lit (base:=w.heap.size) (e:=5) (size:=1) w #[.int .u8 3] 1 (Nat.le_refl _) (by unfold maxLen;omega) rfl
 exact this
theorem code_own{base n:Nat}{v:Value}{acc:List UInt8}{w:World}(h:w.ownsRow base 5 1 v n (cellsOf acc))(hn:acc.length=n):∃a c,v= .slice a n c∧Code w.heap.size w a n (acc.map (fun b=>(b.toNat:Int))):=by
 rcases h.2 with ⟨rfl,h0⟩|⟨g,cap,cur,rfl,hb,hg,hnc,hcm,hcs,htake⟩
 ·refine⟨none,0,by rw[h0],by rw[List.length_map,hn],fun x hx=> ?_,.inl h0⟩
  obtain⟨b,_,rfl⟩:=List.mem_map.1 hx
  have:=b.toNat_lt
  omega
 ·have hcell:=World.ownsRow.cellAt h
  have hg_lt:g<w.heap.size:=by first|exact lt_of_block hg|exact lt_of_block hb
  refine⟨_,_,rfl,by rw[List.length_map,hn],fun x hx=> ?_,.inr ⟨g,0,rfl,hg_lt,fun j hj=> ?_⟩⟩
  ·obtain⟨b,_,rfl⟩:=List.mem_map.1 hx
   have:=b.toNat_lt
   omega
  ·have e:=hcell j (by simpa using hj)
   rw[Nat.zero_add]
   rw[e]
   simp[cellsOf,show j<acc.length by omega]
def RelFresh(len:Nat)(w:World)(v i:Value)(wr:World):Prop:=
 ∃(I:Nat) (acc:List UInt8),i= .int .i64 I∧I≤600∧I≤len∧acc.length=I+1∧wr.ownsRow w.heap.size 5 1 v (I+1) (cellsOf acc)∧Below w.heap.size w wr
def FreshOut(w:World)(e:Ending)(w':World):Prop:=
 ∃(a:Option Addr) (n c:Nat) (zs:List Int),e= .returned (.slice a n c)∧n≤601∧Code w'.heap.size w' a n zs∧Below w.heap.size w w'
theorem fresh_end{len:Nat}{w wr:World}{v:Value}{I:Nat}{acc:List UInt8}(h1:I≤600)(h2:acc.length=I+1)(h3:wr.ownsRow w.heap.size 5 1 v (I+1) (cellsOf acc))(h4:Below w.heap.size w wr):FreshOut w (.returned v) wr:=by
 obtain⟨a,c,rfl,hc⟩:=code_own h3 h2
 exact⟨a,I+1,c,_,rfl,by omega,hc,h4⟩
set_option maxHeartbeats 1600000 in
theorem fresh_any{len cap:Nat}{w:World}{a:Option Addr}{zs:List Int}(hc:Code w.heap.size w a len zs)(hl:len≤1048576):
  Calls Tryz.prog 7 #[.slice a len cap,.int .i64 3] w (FreshOut w):=by
 have HC:=hid hc
 have hz:=hc.1
 have k3:IntKind.u8.wrap 3=3:=by decide
 clear hc
 go_enter Tryz.func7,Tryz.ntmps7
 go_wp2
 go_loopw [5,6] (fun v i wr=>RelFresh len w v i wr) (fun _ i _=>(600-(intOf i).toNat))
 case atStart=>exact⟨0,[3],rfl,by omega,by omega,rfl,own_three w,(Below.refl _ _).alloc (Nat.le_refl _) _⟩
 case round=>
  obtain⟨I,acc,rfl,F,hIl,hal,hown,hbel⟩:=hrel
  have hbs:=hbel.size
  by_cases hll:I<len
  ·by_cases hl6:I<600
   ·obtain⟨b,o,rfl,hbB,hcell⟩:∃b o,a=some ⟨b,o,none⟩∧b<w.heap.size∧∀j,j<len→wr.cell? ⟨b,o+j,none⟩=some (.int .u8 (zs.getD j 0)):=by
     rcases(HC.keep hbel).2.2 with h0|h0
     ·omega
     ·exact h0
    have hcx:=hcell I hll
    have hzb:0≤zs.getD I 0∧zs.getD I 0<256:=by
     have:I<zs.length:=by omega
     rw[List.getD_eq_getElem?_getD,List.getElem?_eq_getElem this]
     exact HC.out.2.1 _ (List.getElem_mem this)
    obtain⟨z,hzz⟩:∃z,z=zs.getD I 0:=⟨_,rfl⟩
    rw[←hzz]at hcx hzb
    obtain⟨J,hJ⟩:∃J:Nat,J=I%7:=⟨_,rfl⟩
    have P:J<7:=by omega
    have e1:(I:Int).tmod 7=(J:Int):=by rw[Int.tmod_eq_emod_of_nonneg (by omega)];omega
    have e2:(I:Int)%7=(J:Int):=by omega
    obtain⟨y,hy⟩:∃y,y=IntKind.u8.wrap (z*3+3*((J:Int)+1)):=⟨_,rfl⟩
    have hyb:0≤y∧y<256:=by rw[hy,IntKind.wrap_u8];omega
    have kw:=hy.symm
    have e:(I:Int)<(len:Int):=by omega
    have O:(I:Int)<600:=by omega
    clear hcell hzz hz hJ hy
    go_wp2_with (at_builtin;refine wpList_append_byte wr y rfl _ _ rfl w.heap.size _ (I+1) acc rfl hown hyb.1 hyb.2 rfl (by omega) hbs ?_;intro v' w2 K G)
    go_roundw
    case rel=>exact⟨I+1,_,by go_num,by omega,by omega,by rw[List.length_append,hal];rfl,K,G _ hbel⟩
    case measure=>simp[intOf];omega
   ·have e:(I:Int)<(len:Int):=by omega
    have O:¬(I:Int)<600:=by omega
    have HF:=hid (fresh_end (len:=len) F hal hown hbel)
    clear hown hbel hz
    go_wp2
    go_ret
    exact HF.out
  ·have e:¬(I:Int)<(len:Int):=by omega
   have HF:=hid (fresh_end (len:=len) F hal hown hbel)
   clear hown hbel hz
   go_wp2
   go_ret
   exact HF.out
end Go.Proofs.YtnoagleifffkcaaGreatDoor.draw
