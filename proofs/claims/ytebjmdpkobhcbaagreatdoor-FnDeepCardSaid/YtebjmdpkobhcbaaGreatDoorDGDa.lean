/- A part of the proof; no condition of its own. -/
import Derived.Test.YtebjmdpkobhcbaaGreatDoorRows
import Derived.Test.YtebjmdpkobhcbaaGreatDoorDBase
import Derived.WalkKit
import Derived.Laws.IdiomStrings
import Derived.Laws.OwnMore
import Derived.ProofKit
import Derived.OpenShut
import Derived.ChangeOld
import Derived.Below
import Derived.WalkSpells
import Derived.WalkLawsBesides
import Derived.BigQuiet
import Derived.Deep.QuietTactic
import Derived.RegionTactic
import Derived.StillTactics
import Derived.Lib.Strings
namespace Go.Proofs.YtebjmdpkobhcbaaGreatDoor
open Go.RowKit
set_option maxRecDepth 20000
def cellsOf(l:List UInt8):List Value:=l.map (fun b=>Value.int .u8 (b.toNat:Int))
end Go.Proofs.YtebjmdpkobhcbaaGreatDoor

namespace Go.Proofs.YtebjmdpkobhcbaaGreatDoor.draw
open Lib (hid)
open Go.ChangeShapes Go.WideShapes Go.ChangeAt Go.RowKit
set_option linter.unusedVariables false
def Cur(w:World)(p:Nat)(a:Option Addr)(len cap:Nat)(s:Nat×Int):Prop:=
 w.heap[p]? =some (.cells #[.slice a len cap,.int .i64 s.1,.int .i64 s.2] 109 (0,0))
def Code(B:Nat)(w:World)(a:Option Addr)(len:Nat)(zs:List Int):Prop:=
 zs.length=len∧(∀n∈zs,0≤n∧n<256)∧(len=0∨∃b o,a=some ⟨b,o,none⟩∧b<B∧∀j,j<len→w.cell? ⟨b,o+j,none⟩=some (.int .u8 (zs.getD j 0)))
structure In(B:Nat)(w:World)(p:Nat)(a:Option Addr)(len cap:Nat)(zs:List Int)(s:Nat×Int):Prop where
 code:Code B w a len zs
 cur:Cur w p a len cap s
 le:B≤p
 used:s.1≤len
 small:len≤1048576
theorem In.lt{B p len cap:Nat}{w:World}{a:Option Addr}{zs:List Int}{s:Nat×Int}(h:In B w p a len cap zs s):p<w.heap.size:=by
 rcases Nat.lt_or_ge p w.heap.size with h'|h'
 ·exact h'
 ·have:=h.cur
  unfold Cur at this
  rw[Array.getElem?_eq_none h']at this
  cases this
theorem grown_trans{a b c:World}{p:Nat}(h1:a.grownBy b (some p))(h2:b.grownBy c (some p)):a.grownBy c (some p):=
 ⟨h2.os.trans h1.os,h2.tape.trans h1.tape,h2.output.trans h1.output,Nat.le_trans h1.size h2.size,fun k hk hne=>(h2.block k (Nat.lt_of_lt_of_le hk h1.size) hne).trans (h1.block k hk hne)⟩
theorem below_of{B p:Nat}{w w':World}(h:w.grownBy w' (some p))(hp:B≤p)(hB:B≤w.heap.size):Below B w w':=
 (Below.refl B w).grown h hB (fun k hk=>by cases hk;exact hp)
theorem Code.keep{B len:Nat}{w w':World}{a:Option Addr}{zs:List Int}(h:Code B w a len zs)(hb:Below B w w'):Code B w' a len zs:=by
 refine⟨h.1,h.2.1, ?_⟩
 rcases h.2.2 with h0|⟨b,o,e,hB,hc⟩
 ·exact .inl h0
 ·exact .inr ⟨b,o,e,hB,fun j hj=>(hb.cell (p:=⟨b,o+j,none⟩) hB).trans (hc j hj)⟩
theorem i64_mask(k:Nat)(hk:k≤62)(n:Int):bits .and .i64 n ((2^k-1:Nat):Int)=n%2^k:=by
 have hle:2^k≤2^62:=Nat.pow_le_pow_right (by decide) hk
 have hpos:0<2^k:=Nat.two_pow_pos k
 have f:(BitVec.ofInt 64 ((2^k-1:Nat):Int)).toNat=2^k-1:=by
  rw[BitVec.ofInt_natCast,BitVec.toNat_ofNat]
  exact Nat.mod_eq_of_lt (by omega)
 have key:(BitVec.ofInt 64 n&&&BitVec.ofInt 64 ((2^k-1:Nat):Int)).toNat=(n%((2^64:Nat):Int)).toNat%2^k:=by
  rw[BitVec.toNat_and,BitVec.toNat_ofInt,f,Nat.and_two_pow_sub_one_eq_mod]
 show IntKind.i64.wrap ((BitVec.ofInt 64 n&&&BitVec.ofInt 64 ((2^k-1:Nat):Int)).toNat:Nat)=n%2^k
 rw[key]
 have hm:(((n%((2^64:Nat):Int)).toNat%2^k:Nat):Int)=n%2^k:=by
  have h0:0≤n%((2^64:Nat):Int):=Int.emod_nonneg _ (by decide)
  rw[Int.natCast_emod,Int.toNat_of_nonneg h0]
  have hd:((2:Int)^k)∣((2^64:Nat):Int):=by
   refine⟨2^(64-k), ?_⟩
   rw[←Int.pow_add,show k+(64-k)=64 by omega]
   rfl
  simpa using Int.emod_emod_of_dvd n hd
 rw[hm]
 have h1:0≤n%2^k:=Int.emod_nonneg _ (by have:(0:Int)<2^k:=Int.pow_pos (by omega);omega)
 have h2:n%2^k<2^k:=Int.emod_lt_of_pos _ (Int.pow_pos (by omega))
 have h3:(2:Int)^k=((2^k:Nat):Int):=by simp
 exact wraps_i64 _ h1 (by omega)
theorem i64_and255(n:Int):bits .and .i64 n 255=n%256:=i64_mask 8 (by decide) n
def nh(h:Int):Int:=wrap64 (wrap64 (h*6364136223846793005)+1442695040888963407)
def rx(h:Int):Int:=bits .xor .i64 (h/8589934592) (h/35184372088832)
def byteF(zs:List Int)(s:Nat×Int):Int×(Nat×Int):=
 if s.1<zs.length then((rx (nh s.2)+zs.getD s.1 0)%256,(s.1+1,nh s.2))else(rx (nh s.2)%256,(s.1,nh s.2))
theorem byteF_bd(zs:List Int)(s:Nat×Int):0≤(byteF zs s).1∧(byteF zs s).1<256:=by
 unfold byteF rx
 split<;>simp only<;>omega
theorem byteF_yes{zs:List Int}{s:Nat×Int}(h:s.1<zs.length):byteF zs s=((rx (nh s.2)+zs.getD s.1 0)%256,(s.1+1,nh s.2)):=by simp[byteF,h]
theorem byteF_no{zs:List Int}{s:Nat×Int}(h:¬s.1<zs.length):byteF zs s=(rx (nh s.2)%256,(s.1,nh s.2)):=by simp[byteF,h]
def Out(B:Nat)(p:Nat)(a:Option Addr)(len cap:Nat)(zs:List Int)(r:Value)(s':Nat×Int)(w:World)(e:Ending)(w':World):Prop:=
 e= .returned r∧In B w' p a len cap zs s'∧w.grownBy w' (some p)
theorem grown_set{w w1:World}{p j:Nat}(u:Value)(h:w.grownBy w1 (some p)):w.grownBy (w1.setCell ⟨p,j,none⟩ u) (some p):=
 ⟨h.os,h.tape,h.output,by simp;exact h.size,fun k hk hne=>by
  rw[heap_setCell_other w1 ⟨p,j,none⟩ k u (fun e=>hne (by rw[e]))]
  exact h.block k hk hne⟩
theorem In.mixed{B p len cap:Nat}{w:World}{a:Option Addr}{zs:List Int}{i:Nat}{h:Int}(H:In B w p a len cap zs (i,h))(h':Int)(n:Nat):
  In B ((w.setCell ⟨p,2,none⟩ (.int .i64 h')).drewN n) p a len cap zs (i,h')∧w.grownBy ((w.setCell ⟨p,2,none⟩ (.int .i64 h')).drewN n) (some p):=by
 have g:w.grownBy ((w.setCell ⟨p,2,none⟩ (.int .i64 h')).drewN n) (some p):=by
  have:=grown_set (j:=2) (.int .i64 h') (World.grownBy.refl w (some p))
  exact⟨this.os,this.tape,this.output,this.size,this.block⟩
 refine⟨⟨H.code.keep (below_of g H.le (Nat.le_of_lt (Nat.lt_of_le_of_lt H.le H.lt))), ?_,H.le,H.used,H.small⟩,g⟩
 exact heap_setCell_same w p 2 _ _ (.int .i64 h') H.cur
theorem In.drewN{B p len cap:Nat}{w:World}{a:Option Addr}{zs:List Int}{s:Nat×Int}(H:In B w p a len cap zs s)(n:Nat):In B (w.drewN n) p a len cap zs s:=
 ⟨H.code.keep ⟨rfl,rfl,rfl,Nat.le_refl _,fun _ _=>rfl⟩,H.cur,H.le,H.used,H.small⟩
theorem grown_drewN{w w1:World}{p:Nat}(h:w.grownBy w1 (some p))(n:Nat):w.grownBy (w1.drewN n) (some p):=⟨h.os,h.tape,h.output,h.size,h.block⟩
theorem In.used_up{B p len cap:Nat}{w:World}{a:Option Addr}{zs:List Int}{i:Nat}{h:Int}(H:In B w p a len cap zs (i,h))(i':Nat)(hi:i'≤len):
  In B (w.setCell ⟨p,1,none⟩ (.int .i64 i')) p a len cap zs (i',h)∧w.grownBy (w.setCell ⟨p,1,none⟩ (.int .i64 i')) (some p):=by
 have g:w.grownBy (w.setCell ⟨p,1,none⟩ (.int .i64 i')) (some p):=grown_set (j:=1) (.int .i64 (i':Int)) (World.grownBy.refl w (some p))
 refine⟨⟨H.code.keep (below_of g H.le (Nat.le_of_lt (Nat.lt_of_le_of_lt H.le H.lt))), ?_,H.le,hi,H.small⟩,g⟩
 exact heap_setCell_same w p 1 _ _ (.int .i64 (i':Int)) H.cur
set_option maxHeartbeats 400000 in
theorem byte_any{B p len cap:Nat}{w:World}{a:Option Addr}{zs:List Int}{s:Nat×Int}(H:In B w p a len cap zs s):
  Calls Tryz.prog 199 #[.pointer (some ⟨p,0,none⟩)] w (Out B p a len cap zs (.int .i64 (byteF zs s).1) (byteF zs s).2 w):=by
 obtain⟨i,h⟩:=s
 have HI:=hid H
 have hcur:=H.cur
 have hu:=H.used
 have hsm:=H.small
 have hzl:=H.code.1
 have m:w.cell? ⟨p,0,none⟩=some (.slice a len cap):=by rw[cell_of_row w p 0 _ _ _ hcur];rfl
 have y:w.cell? ⟨p,1,none⟩=some (.int .i64 (i:Int)):=by rw[cell_of_row w p 1 _ _ _ hcur];rfl
 have u:w.cell? ⟨p,2,none⟩=some (.int .i64 h):=by rw[cell_of_row w p 2 _ _ _ hcur];rfl
 have hf:∀j,w.frozen? ⟨p,j,none⟩=false:=fun j=>frozen_of_row w p j _ _ hcur
 have ha:=i64_and255
 simp only at hu
 by_cases hlt:i<len
 ·obtain⟨b,o,rfl,hbB,hcell⟩:∃b o,a=some ⟨b,o,none⟩∧b<B∧∀j,j<len→w.cell? ⟨b,o+j,none⟩=some (.int .u8 (zs.getD j 0)):=by
   rcases H.code.2.2 with h0|h0
   ·omega
   ·exact h0
  have hcx:=hcell i hlt
  have hbp:b≠p:=by have:=H.le;omega
  have HZ:=hid (byteF_yes (zs:=zs) (s:=(i,h)) (by rw[hzl];exact hlt))
  have hz:0≤zs.getD i 0∧zs.getD i 0<256:=by
   have:i<zs.length:=by omega
   rw[List.getD_eq_getElem?_getD,List.getElem?_eq_getElem this]
   exact H.code.2.1 _ (List.getElem_mem this)
  obtain⟨z,hzz⟩:∃z,z=zs.getD i 0:=⟨_,rfl⟩
  have HZZ:=hid hzz
  rw[←hzz]at hcx hz
  have x:(0:Int)≤(i:Int):=by omega
  have f:(i:Int)<(len:Int):=by omega
  clear hcur hcell hzl H hzz
  go_enter Tryz.func199,Tryz.ntmps199
  go_wp2
  go_quiet (fail)
  go_wp2
  go_quiet (fail)
  go_wp2
  go_quiet (fail)
  go_wp2
  go_ret
  exact⟨by rw[HZ.out,←HZZ.out];rfl,by rw[HZ.out];exact((HI.mixed (nh h) _).1.used_up (i+1) (by omega)).1,grown_trans (HI.mixed (nh h) _).2 ((HI.mixed (nh h) _).1.used_up (i+1) (by omega)).2⟩
 ·have HZ:=hid (byteF_no (zs:=zs) (s:=(i,h)) (by rw[hzl];exact hlt))
  have hnl:¬(i:Int)<(len:Int):=by omega
  clear hcur hzl H
  go_enter Tryz.func199,Tryz.ntmps199
  go_wp2
  go_quiet (fail)
  go_wp2
  go_quiet (fail)
  go_wp2
  go_ret
  exact⟨by rw[HZ.out];rfl,by rw[HZ.out];exact(HI.mixed (nh h) _).1.drewN _,grown_drewN (HI.mixed (nh h) _).2 _⟩
def belowF(zs:List Int)(n:Int)(s:Nat×Int):Int×(Nat×Int):=
 if n≤0 then(0,s)else if n≤256 then((byteF zs s).1%n,(byteF zs s).2)
 else
  let x:=byteF zs s
  let y:=byteF zs x.2
  let z:=byteF zs y.2
  let v:=byteF zs z.2
  ((x.1*16777216+y.1*65536+z.1*256+v.1)%n,v.2)
theorem belowF_bd(zs:List Int)(n:Int)(s:Nat×Int)(h:0<n):0≤(belowF zs n s).1∧(belowF zs n s).1<n:=by
 unfold belowF
 rw[if_neg (by omega)]
 split
 ·exact⟨Int.emod_nonneg _ (by omega),Int.emod_lt_of_pos _ h⟩
 ·exact⟨Int.emod_nonneg _ (by omega),Int.emod_lt_of_pos _ h⟩
set_option maxHeartbeats 800000 in
theorem below_any{B p len cap:Nat}{w:World}{a:Option Addr}{zs:List Int}{s:Nat×Int}(n:Int)(H:In B w p a len cap zs s):
  Calls Tryz.prog 135 #[.pointer (some ⟨p,0,none⟩),.int .i64 n] w (Out B p a len cap zs (.int .i64 (belowF zs n s).1) (belowF zs n s).2 w):=by
 have HI:=hid H
 clear H
 by_cases h0:n≤0
 ·have HZ:=hid (show belowF zs n s=(0,s) by simp[belowF,h0])
  go_enter Tryz.func135,Tryz.ntmps135
  go_wp2
  go_ret
  exact⟨by rw[HZ.out];rfl,by rw[HZ.out];exact HI.out,World.grownBy.refl _ _⟩
 ·have hn:0<n:=by omega
  by_cases h1:n≤256
  ·have HZ:=hid (show belowF zs n s=((byteF zs s).1%n,(byteF zs s).2) by simp[belowF,h0,h1])
   have hb:=byteF_bd zs s
   go_enter Tryz.func135,Tryz.ntmps135
   go_wp2_with fail
   refine(byte_any HI.out).mono ?_
   rintro e w1 ⟨rfl,I1,G1⟩
   have f:=hid I1
   clear I1
   go_wp2
   go_ret
   exact⟨by rw[HZ.out];rfl,by rw[HZ.out];exact f.out,G1⟩
  ·obtain⟨x,hx⟩:∃x,x=byteF zs s:=⟨_,rfl⟩
   obtain⟨y,hy⟩:∃y,y=byteF zs x.2:=⟨_,rfl⟩
   obtain⟨z,hz⟩:∃z,z=byteF zs y.2:=⟨_,rfl⟩
   obtain⟨v,hv⟩:∃v,v=byteF zs z.2:=⟨_,rfl⟩
   have HZ:=hid (show belowF zs n s=((x.1*16777216+y.1*65536+z.1*256+v.1)%n,v.2) by subst hv hz hy hx;simp[belowF,h0,h1])
   have b1:=byteF_bd zs s
   have b2:=byteF_bd zs x.2
   have b3:=byteF_bd zs y.2
   have b4:=byteF_bd zs z.2
   rw[←hx]at b1
   rw[←hy]at b2
   rw[←hz]at b3
   rw[←hv]at b4
   have HX:=hid hx
   have HY:=hid hy
   have h:=hid hz
   have HV:=hid hv
   clear hx hy hz hv
   go_enter Tryz.func135,Tryz.ntmps135
   go_wp2_with fail
   refine(byte_any HI.out).mono ?_
   rintro e w1 ⟨he,I1,G1⟩
   rw[←HX.out]at he I1
   subst he
   have f:=hid I1
   clear I1
   go_wp2_with fail
   refine(byte_any f.out).mono ?_
   rintro e w2 ⟨he,I2,G2⟩
   rw[←HY.out]at he I2
   subst he
   have m:=hid I2
   clear I2
   go_wp2_with fail
   refine(byte_any m.out).mono ?_
   rintro e w3 ⟨he,I3,G3⟩
   rw[←h.out]at he I3
   subst he
   have j:=hid I3
   clear I3
   go_wp2_with fail
   refine(byte_any j.out).mono ?_
   rintro e w4 ⟨he,I4,G4⟩
   rw[←HV.out]at he I4
   subst he
   have o:=hid I4
   clear I4
   go_wp2
   go_ret
   exact⟨by rw[HZ.out];rfl,by rw[HZ.out];exact o.out,grown_trans (grown_trans (grown_trans G1 G2) G3) G4⟩
end Go.Proofs.YtebjmdpkobhcbaaGreatDoor.draw

namespace Go.Proofs.YtebjmdpkobhcbaaGreatDoor.draw
open Lib (hid)
open Go.ChangeShapes Go.WideShapes Go.ChangeAt Go.RowKit
set_option linter.unusedVariables false
def hF(zs:List Int)(len:Nat):Int:=(zs.take 4000).foldl (fun h z=>(h*131+z+7)%1073741824) (10101+(len:Int))
def RelNew(zs:List Int)(len:Nat)(h i:Value):Prop:=∃(I:Nat) (x:Int),I≤len∧I≤4000∧i= .int .i64 I∧h= .int .i64 x∧0≤x∧x<1099511627776∧x=(zs.take I).foldl (fun h z=>(h*131+z+7)%1073741824) (10101+(len:Int))
set_option maxHeartbeats 400000 in
theorem pickInt_any{B p len cap:Nat}{w:World}{a:Option Addr}{zs:List Int}{s:Nat×Int}(q n:Nat)(L:List Int)(H:In B w p a len cap zs s)(hq:w.heap[q]? =some (.cells (L.map (Value.int .i64)).toArray 3 (0,0)))(hL:L.length=n)(hn:0<n)(hqp:q≠p)(hbig:n≤1000):
  Calls Tryz.prog 137 #[.pointer (some ⟨p,0,none⟩),.slice (some ⟨q,0,none⟩) n n] w (Out B p a len cap zs (.int .i64 (L.getD (belowF zs n s).1.toNat 0)) (belowF zs n s).2 w):=by
 have HI:=hid H
 clear H
 have hb:=belowF_bd zs n s (by omega)
 obtain⟨K,hK⟩:∃K:Nat,(belowF zs n s).1=K:=⟨(belowF zs n s).1.toNat,by omega⟩
 have HK:=hid hK
 rw[hK]at hb
 have HQ:=hid hq
 clear hq hK
 go_enter Tryz.func137,Tryz.ntmps137
 go_wp2_with fail
 refine(below_any n HI.out).mono ?_
 rintro e w1 ⟨he,I1,G1⟩
 rw[HK.out]at he
 subst he
 have h:=hid I1
 have f:w1.heap[q]? =some (.cells (L.map (Value.int .i64)).toArray 3 (0,0)):=by
  have hlt:q<w.heap.size:=lt_of_block HQ.out
  rw[G1.block q hlt (by simpa using hqp)]
  exact HQ.out
 have hcell:w1.cell? ⟨q,K,none⟩=some (.int .i64 (L.getD K 0)):=by
  rw[cell_of_row w1 q K _ _ _ f]
  have:K<L.length:=by omega
  simp[this]
 obtain⟨z,hz⟩:∃z,z=L.getD K 0:=⟨_,rfl⟩
 have HZ:=hid hz
 rw[←hz]at hcell
 clear I1 f hz
 go_wp2
 go_ret
 exact⟨by rw[HK.out,Int.toNat_natCast,←HZ.out];rfl,h.out,G1⟩
theorem In.keep{B base p len cap:Nat}{w w':World}{a:Option Addr}{zs:List Int}{s:Nat×Int}(H:In B w p a len cap zs s)(hb:Below base w w')(hp:p<base):In B w' p a len cap zs s:=
 ⟨H.code.keep (hb.mono (Nat.le_of_lt (Nat.lt_of_le_of_lt H.le hp))),by unfold Cur;rw[hb.block p hp];exact H.cur,H.le,H.used,H.small⟩
end Go.Proofs.YtebjmdpkobhcbaaGreatDoor.draw

namespace Go.Proofs.YtebjmdpkobhcbaaGreatDoor.draw
open Go.ChangeShapes Go.WideShapes Go.ChangeAt Go.RowKit
set_option linter.unusedVariables false
def IsRow(k:IntKind)(w:World)(a:Option Addr)(len cap:Nat)(zs:List Int):Prop:=
 (a=none∧len=0∧cap=0∧zs=[])∨
 ∃x,a=some x∧len≤cap∧cap≤maxLen∧zs.length=cap∧(∀i,i<zs.length→w.cell? (x.add i)=some (.int k (zs.getD i 0)))∧∀n∈zs,(Lit.int k n).wf=true
theorem code_of{w:World}{a:Option Addr}{len cap:Nat}{zs:List Int}(h:IsRow .u8 w a len cap zs):Code w.heap.size w a len (zs.take len):=by
 rcases h with ⟨rfl,rfl,rfl,rfl⟩|⟨x,rfl,hl,hm,hz,hc,hw⟩
 ·exact⟨rfl,by simp,.inl rfl⟩
 ·refine⟨by simp;omega, ?_, ?_⟩
  ·intro n hn
   have:=hw n (List.mem_of_mem_take hn)
   simp[Lit.wf,IntKind.min,IntKind.max,IntKind.signed,IntKind.bits]at this
   omega
  ·by_cases h0:len=0
   ·exact .inl h0
   ·refine .inr ?_
    obtain⟨b,o,sp⟩:=x
    have c0:=hc 0 (by omega)
    have hsp:sp=none:=by simpa [Addr.add]using World.cell?_spot c0
    subst hsp
    have e:∀j,(⟨b,o,none⟩:Addr).add j=⟨b,o+j,none⟩:=by
     intro j
     simp only[Addr.add]
     split
     ·next h0=>subst h0;rfl
     ·rfl
    refine⟨b,o,rfl,World.block_lt_of_cell? w _ c0, ?_⟩
    intro j hj
    have:=hc j (by omega)
    rw[e]at this
    rw[this,List.getD_eq_getElem?_getD,List.getD_eq_getElem?_getD,List.getElem?_take,if_pos hj]
theorem Code.up{B B' len:Nat}{w:World}{a:Option Addr}{zs:List Int}(h:Code B w a len zs)(hB:B≤B'):Code B' w a len zs:=by
 refine⟨h.1,h.2.1, ?_⟩
 rcases h.2.2 with h0|⟨b,o,e,hb,hc⟩
 ·exact .inl h0
 ·exact .inr ⟨b,o,e,by omega,hc⟩
theorem big_any(a:Option Addr)(len cap:Nat)(w:World)(hl:(len:Int)≤9223372036854775807):
  Calls Tryz.prog 9 #[.slice a len cap] w fun e w'=>e= .returned (.bool (decide (1048576<len)))∧w=w':=by
 by_cases h:1048576<len
 ·have h':(1048576:Int)<(len:Int):=by omega
  go_enter Tryz.func9,Tryz.ntmps9
  go_wp2
  go_ret
  exact⟨by simp[h],rfl⟩
 ·have h':¬(1048576:Int)<(len:Int):=by omega
  go_enter Tryz.func9,Tryz.ntmps9
  go_wp2
  go_ret
  exact⟨by simp,rfl⟩
end Go.Proofs.YtebjmdpkobhcbaaGreatDoor.draw

namespace Go.Proofs.YtebjmdpkobhcbaaGreatDoor.draw
open Go.ChangeShapes Go.WideShapes Go.ChangeAt Go.RowKit
set_option linter.unusedVariables false
set_option linter.unusedSimpArgs false
set_option maxRecDepth 20000
theorem at_code{a:Option Addr}{len cap:Nat}{zs:List Int}(k:Nat)(hk:k≤10)(w:World)(hc:draw.Code w.heap.size w a len zs)(hl:len≤1048576):
  Calls Tryz.prog 10 #[.slice a len cap,.int .i64 (k:Int)] w fun e w'=>(∃x:Nat,x<256∧e= .returned (.int .i64 (x:Int)))∧w=w':=by
 by_cases h:k<len
 ·rcases hc with ⟨h1,h2,h3|⟨b,o,rfl,hb,h4⟩⟩
  ·omega
  ·have c0:=h4 k h
   have hx:0≤zs.getD k 0∧zs.getD k 0<256:=by
    rw[List.getD_eq_getElem?_getD,List.getElem?_eq_getElem (by omega)]
    exact h2 _ (List.getElem_mem (by omega))
   obtain⟨X,hX⟩:∃X:Nat,zs.getD k 0=(X:Int):=⟨(zs.getD k 0).toNat,by omega⟩
   rw[hX]at c0 hx
   have f:X<256:=by omega
   have j:(k:Int)<(len:Int):=by omega
   have m:(0:Int)≤(k:Int):=by omega
   clear h1 h2 h4 hX hb h
   go_enter Tryz.func10,Tryz.ntmps10
   go_wp2
   go_ret
   refine⟨⟨X,f, ?_⟩,rfl⟩
   first|rfl|(congr 2;unfold IntKind.wrap;simp;omega)|simp
 ·have j:¬(k:Int)<(len:Int):=by omega
  clear hc
  obtain⟨X,hX⟩:∃X:Nat,X=(k*37+len*11)%256:=⟨_,rfl⟩
  have f:X<256:=by omega
  have e1:((k:Int)*37+(len:Int)*11).tmod 256=(X:Int):=by rw[Int.tmod_eq_emod_of_nonneg (by omega)];omega
  have e2:((k:Int)*37+(len:Int)*11)%256=(X:Int):=by omega
  clear hX
  go_enter Tryz.func10,Tryz.ntmps10
  go_wp2
  go_ret
  refine⟨⟨X,f, ?_⟩,rfl⟩
  first|rfl|(simp[e1,e2])|(congr 2)
end Go.Proofs.YtebjmdpkobhcbaaGreatDoor.draw
