/-

-/
import Derived.Test.YtnoagleifffkcaaGreatDoorZoGDc
namespace Go.Proofs.YtnoagleifffkcaaGreatDoor.draw
open Lib (hid)
open Go.ChangeShapes Go.WideShapes Go.ChangeAt Go.RowKit
open nd
set_option linter.unusedVariables false
theorem grown_refl{w:World}{r:Option Nat}:w.grownBy w r:=⟨rfl,rfl,rfl,Nat.le_refl _,fun _ _ _=>rfl⟩
theorem TOut.back{B p len cap:Nat}{a:Option Addr}{zs:List Int}{q:List Nd}{s':St}{w w2 w3:World}{e:Ending}(hG:w.grownBy w2 (some p))(hp:p<w.heap.size)(h:TOut B p a len cap zs q s' w2 e w3):TOut B p a len cap zs q s' w e w3:=by
 obtain⟨v,e,t,i,g⟩:=h
 exact⟨v,e,t.down hG.size hp,i,grown_trans hG g⟩
theorem word_ok{B p len cap:Nat}{w:World}{a:Option Addr}{zs:List Int}{s:St}(H:In B w p a len cap zs s):
  Calls Tryz.prog 130 #[.pointer (some ⟨p,0,none⟩)] w (fun e w'=>Out B p a len cap zs (.string (pkG (exactG zs) l2WordL s).1) (pkG (exactG zs) l2WordL s).2 w e w'∧w.heap.size<w'.heap.size):=x_l2Word H
theorem pick_ok{B p len cap:Nat}{w:World}{a:Option Addr}{zs:List Int}{s:St}(n:Nat)(L:List ByteArray)(H:In B w p a len cap zs s)(hL:L.length=n)(hn:0<n)(hn2:n≤1000):
  Calls Tryz.prog 81 #[.pointer (some ⟨p,0,none⟩),.slice (some ⟨w.heap.size,0,none⟩) n n] (w.alloc (.cells (strCells L) 9)) (fun e w'=>Out B p a len cap zs (.string (pkG (exactG zs) L s).1) (pkG (exactG zs) L s).2 w e w'∧w.heap.size<w'.heap.size):=by
 have e:pkG (exactG zs) L s=(pickS L zs s,(belowF zs n s).2):=by
  unfold pkG pickS
  rw[hL]
  rfl
 rw[e]
 exact pick_lit n L H hL hn hn2
theorem times_all{σ T:Type}{E:σ→T×σ}{P:T→Prop}(h:∀s,P (E s).1):∀n s,∀q∈(timesG E n s).1,P q:=by
 intro n
 induction n with
 |zero=>intro s q hq;cases hq
 |succ n ih=>
  intro s q hq
  rcases List.mem_cons.1 hq with e|e
  ·rw[e];exact h s
  ·exact ih _ q e
theorem list_len(zs:List Int)(E:St→List Nd×St)(least most:Nat)(hl:least≤most)(s:St):(listG (exactG zs) E least most s).1.length≤most:=by
 have hb:=exact_lt zs (most-least+1) s (by omega)
 unfold listG
 rw[times_len]
 omega
def armG{σ T:Type}(g:Gen σ T)(E1 E2 E3:σ→T×σ)(i b:Nat)(t:σ):T×σ:=
 match b with
 |0=>leafG g t
 |1=>lvalG g E1 E2 t
 |2=>(g.nd (nodeO 6 0) [(E1 t).1],(E1 t).2)
 |3=>let x:=pkG g l2WordL t;let l:=listG g E1 0 3 x.2;(g.nd (nodeS 7 x.1) l.1,l.2)
 |4=>let x:=pkG g l7FnL t;let l:=listG g E2 0 3 x.2;(g.nd (nodeS 8 x.1) l.1,l.2)
 |5=>let v:=lvalG g E2 E3 t;(g.nd (nodeO 9 (51+(i:Int))) [v.1],v.2)
 |6=>let v:=lvalG g E2 E3 t;(g.nd (nodeO 10 (51+(i:Int))) [v.1],v.2)
 |7=>let o:=piG g [56,55,61] t;let e:=E1 o.2;(g.nd (nodeO 11 o.1) [e.1],e.2)
 |8=>let o:=piG g [56,55,61] t;let e:=E1 o.2;(g.nd (nodeO 11 o.1) [e.1],e.2)
 |9=>let x:=pkG g l2WordL t;let l:=listG g E1 1 2 x.2;(g.nd (nodeS 13 x.1) l.1,l.2)
 |10=>let e:=E1 t;let e2:=E1 e.2;let e3:=E1 e2.2;(g.nd (nodeO 14 0) [e.1,e2.1,e3.1],e3.2)
 |11=>let o:=piG g [54,38,43] t;let v:=lvalG g E2 E3 o.2;let e:=E1 v.2;(g.nd (nodeO 15 o.1) [v.1,e.1],e.2)
 |_=>let o:=piG g l7BinL t;let e:=E1 o.2;let e2:=E1 e.2;(g.nd (nodeO 12 o.1) [e.1,e2.1],e2.2)
theorem step_arm{σ T:Type}(g:Gen σ T)(E1 E2 E3:σ→T×σ)(s:σ):stepG g E1 E2 E3 s=armG g E1 E2 E3 (g.bl 2 s).1 (g.bl 16 (g.bl 2 s).2).1 (g.bl 16 (g.bl 2 s).2).2:=rfl
structure Arm(B p len cap:Nat)(a:Option Addr)(zs:List Int)(D:Int)(E1 E2 E3:St→List Nd×St)(k:Nat):Prop where
 d0:1≤D
 d1:D≤100
 h1:ExprC B p len cap a zs 83 (D-1) E1
 h2:ExprC B p len cap a zs 83 (D-2) E2
 h3:ExprC B p len cap a zs 83 (D-3) E3
 s1:SmE k E1
 s2:SmE k E2
 s3:SmE k E3
 hk:k≤5000
section
variable {B p len cap:Nat} {a:Option Addr} {zs:List Int} {D:Int} {E1 E2 E3:St→List Nd×St} {k:Nat}
theorem Arm.g1(h:Arm B p len cap a zs D E1 E2 E3 k)(s:St):Good (E1 s).1:=(h.s1 s).good (by have:=h.hk;omega)
theorem Arm.g2(h:Arm B p len cap a zs D E1 E2 E3 k)(s:St):Good (E2 s).1:=(h.s2 s).good (by have:=h.hk;omega)
theorem Arm.g3(h:Arm B p len cap a zs D E1 E2 E3 k)(s:St):Good (E3 s).1:=(h.s3 s).good (by have:=h.hk;omega)
theorem Arm.gl(h:Arm B p len cap a zs D E1 E2 E3 k)(s:St):Good (lvalG (exactG zs) E2 E3 s).1:=(lval_small zs h.s2 h.s3 s).good (by have:=h.hk;omega)
theorem Arm.lv(h:Arm B p len cap a zs D E1 E2 E3 k){w:World}{s:St}(H:In B w p a len cap zs s):Calls Tryz.prog 128 #[.pointer (some ⟨p,0,none⟩),.int .i64 (D-1)] w (TOut B p a len cap zs (lvalG (exactG zs) E2 E3 s).1 (lvalG (exactG zs) E2 E3 s).2 w):=by
 have d0:=h.d0
 have d1:=h.d1
 exact lval_ok (D-1) E2 E3 (by omega) (by rw[show D-1-1=D-2 by omega];exact h.h2) (by rw[show D-1-2=D-3 by omega];exact h.h3) h.g2 h.g3 H
theorem Arm.lv0(h:Arm B p len cap a zs D E1 E2 E3 k){w:World}{s:St}(H:In B w p a len cap zs s):Calls Tryz.prog 128 #[.pointer (some ⟨p,0,none⟩),.int .i64 D] w (TOut B p a len cap zs (lvalG (exactG zs) E1 E2 s).1 (lvalG (exactG zs) E1 E2 s).2 w):=by
 have d0:=h.d0
 have d1:=h.d1
 exact lval_ok D E1 E2 (by omega) h.h1 h.h2 h.g1 h.g2 H
set_option maxHeartbeats 1600000 in
theorem arm0{w:World}{s u t:St}{K2:Nat}(hA:Arm B p len cap a zs D E1 E2 E3 k)(H:In B w p a len cap zs s)(hK2:(belowF zs 2 s).1=(K2:Int))(hk2:K2<2)(hu:(belowF zs 2 s).2=u)(hK:(belowF zs 16 u).1=((0:Nat):Int))(ht:(belowF zs 16 u).2=t):
  Calls Tryz.prog 83 #[.pointer (some ⟨p,0,none⟩),.int .i64 D] w (TOut B p a len cap zs (armG (exactG zs) E1 E2 E3 K2 0 t).1 (armG (exactG zs) E1 E2 E3 K2 0 t).2 w):=by
 have HA:=hid hA
 have HI:=hid H
 have j:=hid hK2
 have HU:=hid hu
 have HK:=hid hK
 have HT:=hid ht
 have d0:=hA.d0
 have d1:=hA.d1
 clear hA H hK2 hu hK ht
 go_enter Tryz.func83,Tryz.ntmps83
 go_wp2_with fail
 refine(below_any 2 HI.out).mono ?_
 rintro e w1 ⟨he,I1,G1⟩
 rw[j.out]at he
 subst he
 rw[HU.out]at I1
 go_wp2_with fail
 refine(below_any 16 I1).mono ?_
 rintro e w2 ⟨he,I2,G2⟩
 rw[HK.out]at he
 subst he
 rw[HT.out]at I2
 have G:=hid (grown_trans G1 G2)
 have hZ:=G.size
 clear I1 G1 G2
 go_wp2_with fail
 refine(leaf_ok I2).mono ?_
 rintro e w3 ho
 have HM:=hid (TOut.back G.out HI.lt ho)
 clear ho
 obtain⟨vz,rfl,_⟩:=HM.out
 go_wp2
 go_ret
 exact HM.out
set_option maxHeartbeats 1600000 in
theorem arm1{w:World}{s u t:St}{K2:Nat}(hA:Arm B p len cap a zs D E1 E2 E3 k)(H:In B w p a len cap zs s)(hK2:(belowF zs 2 s).1=(K2:Int))(hk2:K2<2)(hu:(belowF zs 2 s).2=u)(hK:(belowF zs 16 u).1=((1:Nat):Int))(ht:(belowF zs 16 u).2=t):
  Calls Tryz.prog 83 #[.pointer (some ⟨p,0,none⟩),.int .i64 D] w (TOut B p a len cap zs (armG (exactG zs) E1 E2 E3 K2 1 t).1 (armG (exactG zs) E1 E2 E3 K2 1 t).2 w):=by
 have HA:=hid hA
 have HI:=hid H
 have j:=hid hK2
 have HU:=hid hu
 have HK:=hid hK
 have HT:=hid ht
 have d0:=hA.d0
 have d1:=hA.d1
 clear hA H hK2 hu hK ht
 go_enter Tryz.func83,Tryz.ntmps83
 go_wp2_with fail
 refine(below_any 2 HI.out).mono ?_
 rintro e w1 ⟨he,I1,G1⟩
 rw[j.out]at he
 subst he
 rw[HU.out]at I1
 go_wp2_with fail
 refine(below_any 16 I1).mono ?_
 rintro e w2 ⟨he,I2,G2⟩
 rw[HK.out]at he
 subst he
 rw[HT.out]at I2
 have G:=hid (grown_trans G1 G2)
 have hZ:=G.size
 clear I1 G1 G2
 go_wp2_with fail
 refine(HA.lv0 I2).mono ?_
 rintro e w3 ho
 have HM:=hid (TOut.back G.out HI.lt ho)
 clear ho
 obtain⟨vz,rfl,_⟩:=HM.out
 go_wp2
 go_ret
 exact HM.out
set_option maxHeartbeats 1600000 in
theorem arm2{w:World}{s u t:St}{K2:Nat}(hA:Arm B p len cap a zs D E1 E2 E3 k)(H:In B w p a len cap zs s)(hK2:(belowF zs 2 s).1=(K2:Int))(hk2:K2<2)(hu:(belowF zs 2 s).2=u)(hK:(belowF zs 16 u).1=((2:Nat):Int))(ht:(belowF zs 16 u).2=t):
  Calls Tryz.prog 83 #[.pointer (some ⟨p,0,none⟩),.int .i64 D] w (TOut B p a len cap zs (armG (exactG zs) E1 E2 E3 K2 2 t).1 (armG (exactG zs) E1 E2 E3 K2 2 t).2 w):=by
 have HA:=hid hA
 have HI:=hid H
 have y:=hid hK2
 have HU:=hid hu
 have HK:=hid hK
 have HT:=hid ht
 have d0:=hA.d0
 have d1:=hA.d1
 clear hA H hK2 hu hK ht
 go_enter Tryz.func83,Tryz.ntmps83
 go_wp2_with fail
 refine(below_any 2 HI.out).mono ?_
 rintro e w1 ⟨he,I1,G1⟩
 rw[y.out]at he
 subst he
 rw[HU.out]at I1
 go_wp2_with fail
 refine(below_any 16 I1).mono ?_
 rintro e w2 ⟨he,I2,G2⟩
 rw[HK.out]at he
 subst he
 rw[HT.out]at I2
 have G:=hid (grown_trans G1 G2)
 have hZ:=G.size
 clear I1 G1 G2
 go_wp2_with fail
 refine(HA.h1 _ _ I2).mono ?_
 rintro e w3 ⟨v3,rfl,T3,I3,G3⟩
 obtain⟨a3,c3,rfl⟩:=T3.form
 have j:=hid (grown_trans G.out G3)
 have F:=j.size
 clear G3
 have X3:=hid (TR.down T3 (S':=w.heap.size) (by omega) HI.lt)
 clear T3
 go_wp2_with fail
 refine(good_parts (n:=nodeO 6 0) (parts_of [.slice a3 _ c3] [(E1 t).1] rfl (fun i h _=>by have e0:i=0:=(by simpa using h);subst e0;exact X3.out)) (fun q hq=>by
   simp only[List.mem_cons,List.not_mem_nil,or_false]at hq
   rcases hq with rfl
   ·exact HA.g1 _
   ) (by simp)).mono ?_
 rintro e w4 hmk
 have HM:=hid (TOut.make I3 HI.lt j.out ((Below.refl _ _).alloc (Nat.le_refl _) _) hmk)
 clear hmk
 obtain⟨vz,rfl,_⟩:=HM.out
 go_wp2
 go_ret
 exact HM.out
set_option maxHeartbeats 1600000 in
theorem arm3{w:World}{s u t:St}{K2:Nat}(hA:Arm B p len cap a zs D E1 E2 E3 k)(H:In B w p a len cap zs s)(hK2:(belowF zs 2 s).1=(K2:Int))(hk2:K2<2)(hu:(belowF zs 2 s).2=u)(hK:(belowF zs 16 u).1=((3:Nat):Int))(ht:(belowF zs 16 u).2=t):
  Calls Tryz.prog 83 #[.pointer (some ⟨p,0,none⟩),.int .i64 D] w (TOut B p a len cap zs (armG (exactG zs) E1 E2 E3 K2 3 t).1 (armG (exactG zs) E1 E2 E3 K2 3 t).2 w):=by
 have HA:=hid hA
 have HI:=hid H
 have J:=hid hK2
 have HU:=hid hu
 have HK:=hid hK
 have HT:=hid ht
 have d0:=hA.d0
 have d1:=hA.d1
 clear hA H hK2 hu hK ht
 go_enter Tryz.func83,Tryz.ntmps83
 go_wp2_with fail
 refine(below_any 2 HI.out).mono ?_
 rintro e w1 ⟨he,I1,G1⟩
 rw[J.out]at he
 subst he
 rw[HU.out]at I1
 go_wp2_with fail
 refine(below_any 16 I1).mono ?_
 rintro e w2 ⟨he,I2,G2⟩
 rw[HK.out]at he
 subst he
 rw[HT.out]at I2
 have G:=hid (grown_trans G1 G2)
 have hZ:=G.size
 clear I1 G1 G2
 go_wp2_with fail
 refine(word_ok I2).mono ?_
 rintro e w3 ⟨⟨rfl,I3,G3⟩,Z3⟩
 have F:=hid (grown_trans G.out G3)
 have K:=F.size
 clear G3
 go_wp2_with fail
 refine(list_ok 0 3 _ E1 (by decide) (by decide) HA.h1 I3).mono ?_
 rintro e w4 ⟨g4,c4,P,rfl,L4,j⟩
 have y:=hid L4
 have I:=hid (grown_trans F.out j)
 have O:=I.size
 clear L4 j
 go_wp2_with fail
 refine(good_parts (n:=nodeS 7 (pkG (exactG zs) l2WordL t).1) y.parts (times_all HA.g1 _ _) (Nat.le_trans (list_len zs _ _ _ (by decide) _) (by decide))).mono ?_
 rintro e w5 hmk
 have HM:=hid (TOut.make y.cur HI.lt I.out (Below.refl _ _) hmk)
 clear hmk
 obtain⟨vz,rfl,_⟩:=HM.out
 go_wp2
 go_ret
 exact HM.out
set_option maxHeartbeats 1600000 in
theorem arm4{w:World}{s u t:St}{K2:Nat}(hA:Arm B p len cap a zs D E1 E2 E3 k)(H:In B w p a len cap zs s)(hK2:(belowF zs 2 s).1=(K2:Int))(hk2:K2<2)(hu:(belowF zs 2 s).2=u)(hK:(belowF zs 16 u).1=((4:Nat):Int))(ht:(belowF zs 16 u).2=t):
  Calls Tryz.prog 83 #[.pointer (some ⟨p,0,none⟩),.int .i64 D] w (TOut B p a len cap zs (armG (exactG zs) E1 E2 E3 K2 4 t).1 (armG (exactG zs) E1 E2 E3 K2 4 t).2 w):=by
 have HA:=hid hA
 have HI:=hid H
 have J:=hid hK2
 have HU:=hid hu
 have HK:=hid hK
 have HT:=hid ht
 have d0:=hA.d0
 have d1:=hA.d1
 clear hA H hK2 hu hK ht
 go_enter Tryz.func83,Tryz.ntmps83
 go_wp2_with fail
 refine(below_any 2 HI.out).mono ?_
 rintro e w1 ⟨he,I1,G1⟩
 rw[J.out]at he
 subst he
 rw[HU.out]at I1
 go_wp2_with fail
 refine(below_any 16 I1).mono ?_
 rintro e w2 ⟨he,I2,G2⟩
 rw[HK.out]at he
 subst he
 rw[HT.out]at I2
 have G:=hid (grown_trans G1 G2)
 have hZ:=G.size
 clear I1 G1 G2
 go_wp2_with fail
 refine(pick_ok 5 l7FnL I2 rfl (by decide) (by decide)).mono ?_
 rintro e w3 ⟨⟨rfl,I3,G3⟩,Z3⟩
 have F:=hid (grown_trans G.out G3)
 have K:=F.size
 clear G3
 go_wp2_with fail
 refine(list_ok 0 3 _ E2 (by decide) (by decide) HA.h2 I3).mono ?_
 rintro e w4 ⟨g4,c4,P,rfl,L4,j⟩
 have y:=hid L4
 have I:=hid (grown_trans F.out j)
 have O:=I.size
 clear L4 j
 go_wp2_with fail
 refine(good_parts (n:=nodeS 8 (pkG (exactG zs) l7FnL t).1) y.parts (times_all HA.g2 _ _) (Nat.le_trans (list_len zs _ _ _ (by decide) _) (by decide))).mono ?_
 rintro e w5 hmk
 have HM:=hid (TOut.make y.cur HI.lt I.out (Below.refl _ _) hmk)
 clear hmk
 obtain⟨vz,rfl,_⟩:=HM.out
 go_wp2
 go_ret
 exact HM.out
set_option maxHeartbeats 1600000 in
theorem arm5{w:World}{s u t:St}{K2:Nat}(hA:Arm B p len cap a zs D E1 E2 E3 k)(H:In B w p a len cap zs s)(hK2:(belowF zs 2 s).1=(K2:Int))(hk2:K2<2)(hu:(belowF zs 2 s).2=u)(hK:(belowF zs 16 u).1=((5:Nat):Int))(ht:(belowF zs 16 u).2=t):
  Calls Tryz.prog 83 #[.pointer (some ⟨p,0,none⟩),.int .i64 D] w (TOut B p a len cap zs (armG (exactG zs) E1 E2 E3 K2 5 t).1 (armG (exactG zs) E1 E2 E3 K2 5 t).2 w):=by
 have HA:=hid hA
 have HI:=hid H
 have y:=hid hK2
 have HU:=hid hu
 have HK:=hid hK
 have HT:=hid ht
 have d0:=hA.d0
 have d1:=hA.d1
 clear hA H hK2 hu hK ht
 go_enter Tryz.func83,Tryz.ntmps83
 go_wp2_with fail
 refine(below_any 2 HI.out).mono ?_
 rintro e w1 ⟨he,I1,G1⟩
 rw[y.out]at he
 subst he
 rw[HU.out]at I1
 go_wp2_with fail
 refine(below_any 16 I1).mono ?_
 rintro e w2 ⟨he,I2,G2⟩
 rw[HK.out]at he
 subst he
 rw[HT.out]at I2
 have G:=hid (grown_trans G1 G2)
 have hZ:=G.size
 clear I1 G1 G2
 go_wp2_with fail
 refine(HA.lv I2).mono ?_
 rintro e w3 ⟨v3,rfl,T3,I3,G3⟩
 obtain⟨a3,c3,rfl⟩:=T3.form
 have j:=hid (grown_trans G.out G3)
 have F:=j.size
 clear G3
 have X3:=hid (TR.down T3 (S':=w.heap.size) (by omega) HI.lt)
 clear T3
 go_wp2_with fail
 refine(good_parts (n:=nodeO 9 (51+(K2:Int))) (parts_of [.slice a3 _ c3] [(lvalG (exactG zs) E2 E3 t).1] rfl (fun i h _=>by have e0:i=0:=(by simpa using h);subst e0;exact X3.out)) (fun q hq=>by
   simp only[List.mem_cons,List.not_mem_nil,or_false]at hq
   rcases hq with rfl
   ·exact HA.gl _
   ) (by simp)).mono ?_
 rintro e w4 hmk
 have HM:=hid (TOut.make I3 HI.lt j.out ((Below.refl _ _).alloc (Nat.le_refl _) _) hmk)
 clear hmk
 obtain⟨vz,rfl,_⟩:=HM.out
 go_wp2
 go_ret
 exact HM.out
set_option maxHeartbeats 1600000 in
theorem arm6{w:World}{s u t:St}{K2:Nat}(hA:Arm B p len cap a zs D E1 E2 E3 k)(H:In B w p a len cap zs s)(hK2:(belowF zs 2 s).1=(K2:Int))(hk2:K2<2)(hu:(belowF zs 2 s).2=u)(hK:(belowF zs 16 u).1=((6:Nat):Int))(ht:(belowF zs 16 u).2=t):
  Calls Tryz.prog 83 #[.pointer (some ⟨p,0,none⟩),.int .i64 D] w (TOut B p a len cap zs (armG (exactG zs) E1 E2 E3 K2 6 t).1 (armG (exactG zs) E1 E2 E3 K2 6 t).2 w):=by
 have HA:=hid hA
 have HI:=hid H
 have y:=hid hK2
 have HU:=hid hu
 have HK:=hid hK
 have HT:=hid ht
 have d0:=hA.d0
 have d1:=hA.d1
 clear hA H hK2 hu hK ht
 go_enter Tryz.func83,Tryz.ntmps83
 go_wp2_with fail
 refine(below_any 2 HI.out).mono ?_
 rintro e w1 ⟨he,I1,G1⟩
 rw[y.out]at he
 subst he
 rw[HU.out]at I1
 go_wp2_with fail
 refine(below_any 16 I1).mono ?_
 rintro e w2 ⟨he,I2,G2⟩
 rw[HK.out]at he
 subst he
 rw[HT.out]at I2
 have G:=hid (grown_trans G1 G2)
 have hZ:=G.size
 clear I1 G1 G2
 go_wp2_with fail
 refine(HA.lv I2).mono ?_
 rintro e w3 ⟨v3,rfl,T3,I3,G3⟩
 obtain⟨a3,c3,rfl⟩:=T3.form
 have j:=hid (grown_trans G.out G3)
 have F:=j.size
 clear G3
 have X3:=hid (TR.down T3 (S':=w.heap.size) (by omega) HI.lt)
 clear T3
 go_wp2_with fail
 refine(good_parts (n:=nodeO 10 (51+(K2:Int))) (parts_of [.slice a3 _ c3] [(lvalG (exactG zs) E2 E3 t).1] rfl (fun i h _=>by have e0:i=0:=(by simpa using h);subst e0;exact X3.out)) (fun q hq=>by
   simp only[List.mem_cons,List.not_mem_nil,or_false]at hq
   rcases hq with rfl
   ·exact HA.gl _
   ) (by simp)).mono ?_
 rintro e w4 hmk
 have HM:=hid (TOut.make I3 HI.lt j.out ((Below.refl _ _).alloc (Nat.le_refl _) _) hmk)
 clear hmk
 obtain⟨vz,rfl,_⟩:=HM.out
 go_wp2
 go_ret
 exact HM.out
set_option maxHeartbeats 1600000 in
theorem arm7{w:World}{s u t:St}{K2:Nat}(hA:Arm B p len cap a zs D E1 E2 E3 k)(H:In B w p a len cap zs s)(hK2:(belowF zs 2 s).1=(K2:Int))(hk2:K2<2)(hu:(belowF zs 2 s).2=u)(hK:(belowF zs 16 u).1=((7:Nat):Int))(ht:(belowF zs 16 u).2=t):
  Calls Tryz.prog 83 #[.pointer (some ⟨p,0,none⟩),.int .i64 D] w (TOut B p a len cap zs (armG (exactG zs) E1 E2 E3 K2 7 t).1 (armG (exactG zs) E1 E2 E3 K2 7 t).2 w):=by
 have HA:=hid hA
 have HI:=hid H
 have F:=hid hK2
 have HU:=hid hu
 have HK:=hid hK
 have HT:=hid ht
 have d0:=hA.d0
 have d1:=hA.d1
 clear hA H hK2 hu hK ht
 go_enter Tryz.func83,Tryz.ntmps83
 go_wp2_with fail
 refine(below_any 2 HI.out).mono ?_
 rintro e w1 ⟨he,I1,G1⟩
 rw[F.out]at he
 subst he
 rw[HU.out]at I1
 go_wp2_with fail
 refine(below_any 16 I1).mono ?_
 rintro e w2 ⟨he,I2,G2⟩
 rw[HK.out]at he
 subst he
 rw[HT.out]at I2
 have G:=hid (grown_trans G1 G2)
 have hZ:=G.size
 clear I1 G1 G2
 go_wp2_with fail
 refine(pickInt_lit 3 [56,55,61] I2 rfl (by decide) (by decide)).mono ?_
 rintro e w3 ⟨⟨rfl,I3,G3⟩,Z3⟩
 have y:=hid (grown_trans G.out G3)
 have I:=y.size
 clear G3
 go_wp2_with fail
 refine(HA.h1 _ _ I3).mono ?_
 rintro e w4 ⟨v4,rfl,T4,I4,G4⟩
 obtain⟨a4,c4,rfl⟩:=T4.form
 have j:=hid (grown_trans y.out G4)
 have J:=j.size
 clear G4
 have X4:=hid (TR.down T4 (S':=w.heap.size) (by omega) HI.lt)
 clear T4
 go_wp2_with fail
 refine(good_parts (n:=nodeO 11 (piG (exactG zs) [56,55,61] t).1) (parts_of [.slice a4 _ c4] [(E1 (piG (exactG zs) [56,55,61] t).2).1] rfl (fun i h _=>by have e0:i=0:=(by simpa using h);subst e0;exact X4.out)) (fun q hq=>by
   simp only[List.mem_cons,List.not_mem_nil,or_false]at hq
   rcases hq with rfl
   ·exact HA.g1 _
   ) (by simp)).mono ?_
 rintro e w5 hmk
 have HM:=hid (TOut.make I4 HI.lt j.out ((Below.refl _ _).alloc (Nat.le_refl _) _) hmk)
 clear hmk
 obtain⟨vz,rfl,_⟩:=HM.out
 go_wp2
 go_ret
 exact HM.out
set_option maxHeartbeats 1600000 in
theorem arm8{w:World}{s u t:St}{K2:Nat}(hA:Arm B p len cap a zs D E1 E2 E3 k)(H:In B w p a len cap zs s)(hK2:(belowF zs 2 s).1=(K2:Int))(hk2:K2<2)(hu:(belowF zs 2 s).2=u)(hK:(belowF zs 16 u).1=((8:Nat):Int))(ht:(belowF zs 16 u).2=t):
  Calls Tryz.prog 83 #[.pointer (some ⟨p,0,none⟩),.int .i64 D] w (TOut B p a len cap zs (armG (exactG zs) E1 E2 E3 K2 8 t).1 (armG (exactG zs) E1 E2 E3 K2 8 t).2 w):=by
 have HA:=hid hA
 have HI:=hid H
 have F:=hid hK2
 have HU:=hid hu
 have HK:=hid hK
 have HT:=hid ht
 have d0:=hA.d0
 have d1:=hA.d1
 clear hA H hK2 hu hK ht
 go_enter Tryz.func83,Tryz.ntmps83
 go_wp2_with fail
 refine(below_any 2 HI.out).mono ?_
 rintro e w1 ⟨he,I1,G1⟩
 rw[F.out]at he
 subst he
 rw[HU.out]at I1
 go_wp2_with fail
 refine(below_any 16 I1).mono ?_
 rintro e w2 ⟨he,I2,G2⟩
 rw[HK.out]at he
 subst he
 rw[HT.out]at I2
 have G:=hid (grown_trans G1 G2)
 have hZ:=G.size
 clear I1 G1 G2
 go_wp2_with fail
 refine(pickInt_lit 3 [56,55,61] I2 rfl (by decide) (by decide)).mono ?_
 rintro e w3 ⟨⟨rfl,I3,G3⟩,Z3⟩
 have y:=hid (grown_trans G.out G3)
 have I:=y.size
 clear G3
 go_wp2_with fail
 refine(HA.h1 _ _ I3).mono ?_
 rintro e w4 ⟨v4,rfl,T4,I4,G4⟩
 obtain⟨a4,c4,rfl⟩:=T4.form
 have j:=hid (grown_trans y.out G4)
 have J:=j.size
 clear G4
 have X4:=hid (TR.down T4 (S':=w.heap.size) (by omega) HI.lt)
 clear T4
 go_wp2_with fail
 refine(good_parts (n:=nodeO 11 (piG (exactG zs) [56,55,61] t).1) (parts_of [.slice a4 _ c4] [(E1 (piG (exactG zs) [56,55,61] t).2).1] rfl (fun i h _=>by have e0:i=0:=(by simpa using h);subst e0;exact X4.out)) (fun q hq=>by
   simp only[List.mem_cons,List.not_mem_nil,or_false]at hq
   rcases hq with rfl
   ·exact HA.g1 _
   ) (by simp)).mono ?_
 rintro e w5 hmk
 have HM:=hid (TOut.make I4 HI.lt j.out ((Below.refl _ _).alloc (Nat.le_refl _) _) hmk)
 clear hmk
 obtain⟨vz,rfl,_⟩:=HM.out
 go_wp2
 go_ret
 exact HM.out
set_option maxHeartbeats 1600000 in
theorem arm9{w:World}{s u t:St}{K2:Nat}(hA:Arm B p len cap a zs D E1 E2 E3 k)(H:In B w p a len cap zs s)(hK2:(belowF zs 2 s).1=(K2:Int))(hk2:K2<2)(hu:(belowF zs 2 s).2=u)(hK:(belowF zs 16 u).1=((9:Nat):Int))(ht:(belowF zs 16 u).2=t):
  Calls Tryz.prog 83 #[.pointer (some ⟨p,0,none⟩),.int .i64 D] w (TOut B p a len cap zs (armG (exactG zs) E1 E2 E3 K2 9 t).1 (armG (exactG zs) E1 E2 E3 K2 9 t).2 w):=by
 have HA:=hid hA
 have HI:=hid H
 have J:=hid hK2
 have HU:=hid hu
 have HK:=hid hK
 have HT:=hid ht
 have d0:=hA.d0
 have d1:=hA.d1
 clear hA H hK2 hu hK ht
 go_enter Tryz.func83,Tryz.ntmps83
 go_wp2_with fail
 refine(below_any 2 HI.out).mono ?_
 rintro e w1 ⟨he,I1,G1⟩
 rw[J.out]at he
 subst he
 rw[HU.out]at I1
 go_wp2_with fail
 refine(below_any 16 I1).mono ?_
 rintro e w2 ⟨he,I2,G2⟩
 rw[HK.out]at he
 subst he
 rw[HT.out]at I2
 have G:=hid (grown_trans G1 G2)
 have hZ:=G.size
 clear I1 G1 G2
 go_wp2_with fail
 refine(word_ok I2).mono ?_
 rintro e w3 ⟨⟨rfl,I3,G3⟩,Z3⟩
 have F:=hid (grown_trans G.out G3)
 have K:=F.size
 clear G3
 go_wp2_with fail
 refine(list_ok 1 2 _ E1 (by decide) (by decide) HA.h1 I3).mono ?_
 rintro e w4 ⟨g4,c4,P,rfl,L4,j⟩
 have y:=hid L4
 have I:=hid (grown_trans F.out j)
 have O:=I.size
 clear L4 j
 go_wp2_with fail
 refine(good_parts (n:=nodeS 13 (pkG (exactG zs) l2WordL t).1) y.parts (times_all HA.g1 _ _) (Nat.le_trans (list_len zs _ _ _ (by decide) _) (by decide))).mono ?_
 rintro e w5 hmk
 have HM:=hid (TOut.make y.cur HI.lt I.out (Below.refl _ _) hmk)
 clear hmk
 obtain⟨vz,rfl,_⟩:=HM.out
 go_wp2
 go_ret
 exact HM.out
set_option maxHeartbeats 1600000 in
theorem arm10{w:World}{s u t:St}{K2:Nat}(hA:Arm B p len cap a zs D E1 E2 E3 k)(H:In B w p a len cap zs s)(hK2:(belowF zs 2 s).1=(K2:Int))(hk2:K2<2)(hu:(belowF zs 2 s).2=u)(hK:(belowF zs 16 u).1=((10:Nat):Int))(ht:(belowF zs 16 u).2=t):
  Calls Tryz.prog 83 #[.pointer (some ⟨p,0,none⟩),.int .i64 D] w (TOut B p a len cap zs (armG (exactG zs) E1 E2 E3 K2 10 t).1 (armG (exactG zs) E1 E2 E3 K2 10 t).2 w):=by
 have HA:=hid hA
 have HI:=hid H
 have K:=hid hK2
 have HU:=hid hu
 have HK:=hid hK
 have HT:=hid ht
 have d0:=hA.d0
 have d1:=hA.d1
 clear hA H hK2 hu hK ht
 go_enter Tryz.func83,Tryz.ntmps83
 go_wp2_with fail
 refine(below_any 2 HI.out).mono ?_
 rintro e w1 ⟨he,I1,G1⟩
 rw[K.out]at he
 subst he
 rw[HU.out]at I1
 go_wp2_with fail
 refine(below_any 16 I1).mono ?_
 rintro e w2 ⟨he,I2,G2⟩
 rw[HK.out]at he
 subst he
 rw[HT.out]at I2
 have G:=hid (grown_trans G1 G2)
 have hZ:=G.size
 clear I1 G1 G2
 go_wp2_with fail
 refine(HA.h1 _ _ I2).mono ?_
 rintro e w3 ⟨v3,rfl,T3,I3,G3⟩
 obtain⟨a3,c3,rfl⟩:=T3.form
 have I:=hid (grown_trans G.out G3)
 have P:=I.size
 clear G3
 have X3:=hid (TR.down T3 (S':=w.heap.size) (by omega) HI.lt)
 clear T3
 go_wp2_with fail
 refine(HA.h1 _ _ I3).mono ?_
 rintro e w4 ⟨v4,rfl,T4,I4,G4⟩
 obtain⟨a4,c4,rfl⟩:=T4.form
 have j:=hid (X3.grown G4)
 clear X3
 have X3:=j
 clear j
 have F:=hid (grown_trans I.out G4)
 have S:=F.size
 clear G4
 have X4:=hid (TR.down T4 (S':=w.heap.size) (by omega) HI.lt)
 clear T4
 go_wp2_with fail
 refine(HA.h1 _ _ I4).mono ?_
 rintro e w5 ⟨v5,rfl,T5,I5,G5⟩
 obtain⟨a5,c5,rfl⟩:=T5.form
 have j:=hid (X3.grown G5)
 clear X3
 have X3:=j
 clear j
 have y:=hid (X4.grown G5)
 clear X4
 have X4:=y
 clear y
 have J:=hid (grown_trans F.out G5)
 have O:=J.size
 clear G5
 have X5:=hid (TR.down T5 (S':=w.heap.size) (by omega) HI.lt)
 clear T5
 go_wp2_with fail
 refine(good_parts (n:=nodeO 14 0) (parts_of [.slice a3 _ c3,.slice a4 _ c4,.slice a5 _ c5] [(E1 t).1,(E1 (E1 t).2).1,(E1 (E1 (E1 t).2).2).1] rfl (fun i h _=>by
   have e0:i=0∨i=1∨i=2:=(by simp at h;omega)
   rcases e0 with rfl|rfl|rfl
   ·exact X3.out
   ·exact X4.out
   ·exact X5.out
   )) (fun q hq=>by
   simp only[List.mem_cons,List.not_mem_nil,or_false]at hq
   rcases hq with rfl|rfl|rfl
   ·exact HA.g1 _
   ·exact HA.g1 _
   ·exact HA.g1 _
   ) (by simp)).mono ?_
 rintro e w6 hmk
 have HM:=hid (TOut.make I5 HI.lt J.out ((Below.refl _ _).alloc (Nat.le_refl _) _) hmk)
 clear hmk
 obtain⟨vz,rfl,_⟩:=HM.out
 go_wp2
 go_ret
 exact HM.out
set_option maxHeartbeats 1600000 in
theorem arm11{w:World}{s u t:St}{K2:Nat}(hA:Arm B p len cap a zs D E1 E2 E3 k)(H:In B w p a len cap zs s)(hK2:(belowF zs 2 s).1=(K2:Int))(hk2:K2<2)(hu:(belowF zs 2 s).2=u)(hK:(belowF zs 16 u).1=((11:Nat):Int))(ht:(belowF zs 16 u).2=t):
  Calls Tryz.prog 83 #[.pointer (some ⟨p,0,none⟩),.int .i64 D] w (TOut B p a len cap zs (armG (exactG zs) E1 E2 E3 K2 11 t).1 (armG (exactG zs) E1 E2 E3 K2 11 t).2 w):=by
 have HA:=hid hA
 have HI:=hid H
 have J:=hid hK2
 have HU:=hid hu
 have HK:=hid hK
 have HT:=hid ht
 have d0:=hA.d0
 have d1:=hA.d1
 clear hA H hK2 hu hK ht
 go_enter Tryz.func83,Tryz.ntmps83
 go_wp2_with fail
 refine(below_any 2 HI.out).mono ?_
 rintro e w1 ⟨he,I1,G1⟩
 rw[J.out]at he
 subst he
 rw[HU.out]at I1
 go_wp2_with fail
 refine(below_any 16 I1).mono ?_
 rintro e w2 ⟨he,I2,G2⟩
 rw[HK.out]at he
 subst he
 rw[HT.out]at I2
 have G:=hid (grown_trans G1 G2)
 have hZ:=G.size
 clear I1 G1 G2
 go_wp2_with fail
 refine(pickInt_lit 3 [54,38,43] I2 rfl (by decide) (by decide)).mono ?_
 rintro e w3 ⟨⟨rfl,I3,G3⟩,Z3⟩
 have F:=hid (grown_trans G.out G3)
 have O:=F.size
 clear G3
 go_wp2_with fail
 refine(HA.lv I3).mono ?_
 rintro e w4 ⟨v4,rfl,T4,I4,G4⟩
 obtain⟨a4,c4,rfl⟩:=T4.form
 have y:=hid (grown_trans F.out G4)
 have P:=y.size
 clear G4
 have X4:=hid (TR.down T4 (S':=w.heap.size) (by omega) HI.lt)
 clear T4
 go_wp2_with fail
 refine(HA.h1 _ _ I4).mono ?_
 rintro e w5 ⟨v5,rfl,T5,I5,G5⟩
 obtain⟨a5,c5,rfl⟩:=T5.form
 have j:=hid (X4.grown G5)
 clear X4
 have X4:=j
 clear j
 have I:=hid (grown_trans y.out G5)
 have K:=I.size
 clear G5
 have X5:=hid (TR.down T5 (S':=w.heap.size) (by omega) HI.lt)
 clear T5
 go_wp2_with fail
 refine(good_parts (n:=nodeO 15 (piG (exactG zs) [54,38,43] t).1) (parts_of [.slice a4 _ c4,.slice a5 _ c5] [(lvalG (exactG zs) E2 E3 (piG (exactG zs) [54,38,43] t).2).1,(E1 (lvalG (exactG zs) E2 E3 (piG (exactG zs) [54,38,43] t).2).2).1] rfl (fun i h _=>by
   have e0:i=0∨i=1:=(by simp at h;omega)
   rcases e0 with rfl|rfl
   ·exact X4.out
   ·exact X5.out
   )) (fun q hq=>by
   simp only[List.mem_cons,List.not_mem_nil,or_false]at hq
   rcases hq with rfl|rfl
   ·exact HA.gl _
   ·exact HA.g1 _
   ) (by simp)).mono ?_
 rintro e w6 hmk
 have HM:=hid (TOut.make I5 HI.lt I.out ((Below.refl _ _).alloc (Nat.le_refl _) _) hmk)
 clear hmk
 obtain⟨vz,rfl,_⟩:=HM.out
 go_wp2
 go_ret
 exact HM.out
set_option maxHeartbeats 1600000 in
theorem arm12{w:World}{s u t:St}{K2:Nat}(hA:Arm B p len cap a zs D E1 E2 E3 k)(H:In B w p a len cap zs s)(hK2:(belowF zs 2 s).1=(K2:Int))(hk2:K2<2)(hu:(belowF zs 2 s).2=u)(hK:(belowF zs 16 u).1=((12:Nat):Int))(ht:(belowF zs 16 u).2=t):
  Calls Tryz.prog 83 #[.pointer (some ⟨p,0,none⟩),.int .i64 D] w (TOut B p a len cap zs (armG (exactG zs) E1 E2 E3 K2 12 t).1 (armG (exactG zs) E1 E2 E3 K2 12 t).2 w):=by
 have HA:=hid hA
 have HI:=hid H
 have J:=hid hK2
 have HU:=hid hu
 have HK:=hid hK
 have HT:=hid ht
 have d0:=hA.d0
 have d1:=hA.d1
 clear hA H hK2 hu hK ht
 go_enter Tryz.func83,Tryz.ntmps83
 go_wp2_with fail
 refine(below_any 2 HI.out).mono ?_
 rintro e w1 ⟨he,I1,G1⟩
 rw[J.out]at he
 subst he
 rw[HU.out]at I1
 go_wp2_with fail
 refine(below_any 16 I1).mono ?_
 rintro e w2 ⟨he,I2,G2⟩
 rw[HK.out]at he
 subst he
 rw[HT.out]at I2
 have G:=hid (grown_trans G1 G2)
 have hZ:=G.size
 clear I1 G1 G2
 go_wp2_with fail
 refine(binop_ok I2).mono ?_
 rintro e w3 ⟨⟨rfl,I3,G3⟩,Z3⟩
 have F:=hid (grown_trans G.out G3)
 have O:=F.size
 clear G3
 go_wp2_with fail
 refine(HA.h1 _ _ I3).mono ?_
 rintro e w4 ⟨v4,rfl,T4,I4,G4⟩
 obtain⟨a4,c4,rfl⟩:=T4.form
 have y:=hid (grown_trans F.out G4)
 have P:=y.size
 clear G4
 have X4:=hid (TR.down T4 (S':=w.heap.size) (by omega) HI.lt)
 clear T4
 go_wp2_with fail
 refine(HA.h1 _ _ I4).mono ?_
 rintro e w5 ⟨v5,rfl,T5,I5,G5⟩
 obtain⟨a5,c5,rfl⟩:=T5.form
 have j:=hid (X4.grown G5)
 clear X4
 have X4:=j
 clear j
 have I:=hid (grown_trans y.out G5)
 have K:=I.size
 clear G5
 have X5:=hid (TR.down T5 (S':=w.heap.size) (by omega) HI.lt)
 clear T5
 go_wp2_with fail
 refine(good_parts (n:=nodeO 12 (piG (exactG zs) l7BinL t).1) (parts_of [.slice a4 _ c4,.slice a5 _ c5] [(E1 (piG (exactG zs) l7BinL t).2).1,(E1 (E1 (piG (exactG zs) l7BinL t).2).2).1] rfl (fun i h _=>by
   have e0:i=0∨i=1:=(by simp at h;omega)
   rcases e0 with rfl|rfl
   ·exact X4.out
   ·exact X5.out
   )) (fun q hq=>by
   simp only[List.mem_cons,List.not_mem_nil,or_false]at hq
   rcases hq with rfl|rfl
   ·exact HA.g1 _
   ·exact HA.g1 _
   ) (by simp)).mono ?_
 rintro e w6 hmk
 have HM:=hid (TOut.make I5 HI.lt I.out ((Below.refl _ _).alloc (Nat.le_refl _) _) hmk)
 clear hmk
 obtain⟨vz,rfl,_⟩:=HM.out
 go_wp2
 go_ret
 exact HM.out
set_option maxHeartbeats 1600000 in
theorem arm13{w:World}{s u t:St}{K2:Nat}(hA:Arm B p len cap a zs D E1 E2 E3 k)(H:In B w p a len cap zs s)(hK2:(belowF zs 2 s).1=(K2:Int))(hk2:K2<2)(hu:(belowF zs 2 s).2=u)(hK:(belowF zs 16 u).1=((13:Nat):Int))(ht:(belowF zs 16 u).2=t):
  Calls Tryz.prog 83 #[.pointer (some ⟨p,0,none⟩),.int .i64 D] w (TOut B p a len cap zs (armG (exactG zs) E1 E2 E3 K2 13 t).1 (armG (exactG zs) E1 E2 E3 K2 13 t).2 w):=by
 have HA:=hid hA
 have HI:=hid H
 have J:=hid hK2
 have HU:=hid hu
 have HK:=hid hK
 have HT:=hid ht
 have d0:=hA.d0
 have d1:=hA.d1
 clear hA H hK2 hu hK ht
 go_enter Tryz.func83,Tryz.ntmps83
 go_wp2_with fail
 refine(below_any 2 HI.out).mono ?_
 rintro e w1 ⟨he,I1,G1⟩
 rw[J.out]at he
 subst he
 rw[HU.out]at I1
 go_wp2_with fail
 refine(below_any 16 I1).mono ?_
 rintro e w2 ⟨he,I2,G2⟩
 rw[HK.out]at he
 subst he
 rw[HT.out]at I2
 have G:=hid (grown_trans G1 G2)
 have hZ:=G.size
 clear I1 G1 G2
 go_wp2_with fail
 refine(binop_ok I2).mono ?_
 rintro e w3 ⟨⟨rfl,I3,G3⟩,Z3⟩
 have F:=hid (grown_trans G.out G3)
 have O:=F.size
 clear G3
 go_wp2_with fail
 refine(HA.h1 _ _ I3).mono ?_
 rintro e w4 ⟨v4,rfl,T4,I4,G4⟩
 obtain⟨a4,c4,rfl⟩:=T4.form
 have y:=hid (grown_trans F.out G4)
 have P:=y.size
 clear G4
 have X4:=hid (TR.down T4 (S':=w.heap.size) (by omega) HI.lt)
 clear T4
 go_wp2_with fail
 refine(HA.h1 _ _ I4).mono ?_
 rintro e w5 ⟨v5,rfl,T5,I5,G5⟩
 obtain⟨a5,c5,rfl⟩:=T5.form
 have j:=hid (X4.grown G5)
 clear X4
 have X4:=j
 clear j
 have I:=hid (grown_trans y.out G5)
 have K:=I.size
 clear G5
 have X5:=hid (TR.down T5 (S':=w.heap.size) (by omega) HI.lt)
 clear T5
 go_wp2_with fail
 refine(good_parts (n:=nodeO 12 (piG (exactG zs) l7BinL t).1) (parts_of [.slice a4 _ c4,.slice a5 _ c5] [(E1 (piG (exactG zs) l7BinL t).2).1,(E1 (E1 (piG (exactG zs) l7BinL t).2).2).1] rfl (fun i h _=>by
   have e0:i=0∨i=1:=(by simp at h;omega)
   rcases e0 with rfl|rfl
   ·exact X4.out
   ·exact X5.out
   )) (fun q hq=>by
   simp only[List.mem_cons,List.not_mem_nil,or_false]at hq
   rcases hq with rfl|rfl
   ·exact HA.g1 _
   ·exact HA.g1 _
   ) (by simp)).mono ?_
 rintro e w6 hmk
 have HM:=hid (TOut.make I5 HI.lt I.out ((Below.refl _ _).alloc (Nat.le_refl _) _) hmk)
 clear hmk
 obtain⟨vz,rfl,_⟩:=HM.out
 go_wp2
 go_ret
 exact HM.out
set_option maxHeartbeats 1600000 in
theorem arm14{w:World}{s u t:St}{K2:Nat}(hA:Arm B p len cap a zs D E1 E2 E3 k)(H:In B w p a len cap zs s)(hK2:(belowF zs 2 s).1=(K2:Int))(hk2:K2<2)(hu:(belowF zs 2 s).2=u)(hK:(belowF zs 16 u).1=((14:Nat):Int))(ht:(belowF zs 16 u).2=t):
  Calls Tryz.prog 83 #[.pointer (some ⟨p,0,none⟩),.int .i64 D] w (TOut B p a len cap zs (armG (exactG zs) E1 E2 E3 K2 14 t).1 (armG (exactG zs) E1 E2 E3 K2 14 t).2 w):=by
 have HA:=hid hA
 have HI:=hid H
 have J:=hid hK2
 have HU:=hid hu
 have HK:=hid hK
 have HT:=hid ht
 have d0:=hA.d0
 have d1:=hA.d1
 clear hA H hK2 hu hK ht
 go_enter Tryz.func83,Tryz.ntmps83
 go_wp2_with fail
 refine(below_any 2 HI.out).mono ?_
 rintro e w1 ⟨he,I1,G1⟩
 rw[J.out]at he
 subst he
 rw[HU.out]at I1
 go_wp2_with fail
 refine(below_any 16 I1).mono ?_
 rintro e w2 ⟨he,I2,G2⟩
 rw[HK.out]at he
 subst he
 rw[HT.out]at I2
 have G:=hid (grown_trans G1 G2)
 have hZ:=G.size
 clear I1 G1 G2
 go_wp2_with fail
 refine(binop_ok I2).mono ?_
 rintro e w3 ⟨⟨rfl,I3,G3⟩,Z3⟩
 have F:=hid (grown_trans G.out G3)
 have O:=F.size
 clear G3
 go_wp2_with fail
 refine(HA.h1 _ _ I3).mono ?_
 rintro e w4 ⟨v4,rfl,T4,I4,G4⟩
 obtain⟨a4,c4,rfl⟩:=T4.form
 have y:=hid (grown_trans F.out G4)
 have P:=y.size
 clear G4
 have X4:=hid (TR.down T4 (S':=w.heap.size) (by omega) HI.lt)
 clear T4
 go_wp2_with fail
 refine(HA.h1 _ _ I4).mono ?_
 rintro e w5 ⟨v5,rfl,T5,I5,G5⟩
 obtain⟨a5,c5,rfl⟩:=T5.form
 have j:=hid (X4.grown G5)
 clear X4
 have X4:=j
 clear j
 have I:=hid (grown_trans y.out G5)
 have K:=I.size
 clear G5
 have X5:=hid (TR.down T5 (S':=w.heap.size) (by omega) HI.lt)
 clear T5
 go_wp2_with fail
 refine(good_parts (n:=nodeO 12 (piG (exactG zs) l7BinL t).1) (parts_of [.slice a4 _ c4,.slice a5 _ c5] [(E1 (piG (exactG zs) l7BinL t).2).1,(E1 (E1 (piG (exactG zs) l7BinL t).2).2).1] rfl (fun i h _=>by
   have e0:i=0∨i=1:=(by simp at h;omega)
   rcases e0 with rfl|rfl
   ·exact X4.out
   ·exact X5.out
   )) (fun q hq=>by
   simp only[List.mem_cons,List.not_mem_nil,or_false]at hq
   rcases hq with rfl|rfl
   ·exact HA.g1 _
   ·exact HA.g1 _
   ) (by simp)).mono ?_
 rintro e w6 hmk
 have HM:=hid (TOut.make I5 HI.lt I.out ((Below.refl _ _).alloc (Nat.le_refl _) _) hmk)
 clear hmk
 obtain⟨vz,rfl,_⟩:=HM.out
 go_wp2
 go_ret
 exact HM.out
set_option maxHeartbeats 1600000 in
theorem arm15{w:World}{s u t:St}{K2:Nat}(hA:Arm B p len cap a zs D E1 E2 E3 k)(H:In B w p a len cap zs s)(hK2:(belowF zs 2 s).1=(K2:Int))(hk2:K2<2)(hu:(belowF zs 2 s).2=u)(hK:(belowF zs 16 u).1=((15:Nat):Int))(ht:(belowF zs 16 u).2=t):
  Calls Tryz.prog 83 #[.pointer (some ⟨p,0,none⟩),.int .i64 D] w (TOut B p a len cap zs (armG (exactG zs) E1 E2 E3 K2 15 t).1 (armG (exactG zs) E1 E2 E3 K2 15 t).2 w):=by
 have HA:=hid hA
 have HI:=hid H
 have J:=hid hK2
 have HU:=hid hu
 have HK:=hid hK
 have HT:=hid ht
 have d0:=hA.d0
 have d1:=hA.d1
 clear hA H hK2 hu hK ht
 go_enter Tryz.func83,Tryz.ntmps83
 go_wp2_with fail
 refine(below_any 2 HI.out).mono ?_
 rintro e w1 ⟨he,I1,G1⟩
 rw[J.out]at he
 subst he
 rw[HU.out]at I1
 go_wp2_with fail
 refine(below_any 16 I1).mono ?_
 rintro e w2 ⟨he,I2,G2⟩
 rw[HK.out]at he
 subst he
 rw[HT.out]at I2
 have G:=hid (grown_trans G1 G2)
 have hZ:=G.size
 clear I1 G1 G2
 go_wp2_with fail
 refine(binop_ok I2).mono ?_
 rintro e w3 ⟨⟨rfl,I3,G3⟩,Z3⟩
 have F:=hid (grown_trans G.out G3)
 have O:=F.size
 clear G3
 go_wp2_with fail
 refine(HA.h1 _ _ I3).mono ?_
 rintro e w4 ⟨v4,rfl,T4,I4,G4⟩
 obtain⟨a4,c4,rfl⟩:=T4.form
 have y:=hid (grown_trans F.out G4)
 have P:=y.size
 clear G4
 have X4:=hid (TR.down T4 (S':=w.heap.size) (by omega) HI.lt)
 clear T4
 go_wp2_with fail
 refine(HA.h1 _ _ I4).mono ?_
 rintro e w5 ⟨v5,rfl,T5,I5,G5⟩
 obtain⟨a5,c5,rfl⟩:=T5.form
 have j:=hid (X4.grown G5)
 clear X4
 have X4:=j
 clear j
 have I:=hid (grown_trans y.out G5)
 have K:=I.size
 clear G5
 have X5:=hid (TR.down T5 (S':=w.heap.size) (by omega) HI.lt)
 clear T5
 go_wp2_with fail
 refine(good_parts (n:=nodeO 12 (piG (exactG zs) l7BinL t).1) (parts_of [.slice a4 _ c4,.slice a5 _ c5] [(E1 (piG (exactG zs) l7BinL t).2).1,(E1 (E1 (piG (exactG zs) l7BinL t).2).2).1] rfl (fun i h _=>by
   have e0:i=0∨i=1:=(by simp at h;omega)
   rcases e0 with rfl|rfl
   ·exact X4.out
   ·exact X5.out
   )) (fun q hq=>by
   simp only[List.mem_cons,List.not_mem_nil,or_false]at hq
   rcases hq with rfl|rfl
   ·exact HA.g1 _
   ·exact HA.g1 _
   ) (by simp)).mono ?_
 rintro e w6 hmk
 have HM:=hid (TOut.make I5 HI.lt I.out ((Below.refl _ _).alloc (Nat.le_refl _) _) hmk)
 clear hmk
 obtain⟨vz,rfl,_⟩:=HM.out
 go_wp2
 go_ret
 exact HM.out
theorem step_ok{w:World}{s:St}(hA:Arm B p len cap a zs D E1 E2 E3 k)(H:In B w p a len cap zs s):
  Calls Tryz.prog 83 #[.pointer (some ⟨p,0,none⟩),.int .i64 D] w (TOut B p a len cap zs (stepG (exactG zs) E1 E2 E3 s).1 (stepG (exactG zs) E1 E2 E3 s).2 w):=by
 have F:=belowF_bd zs 2 s (by omega)
 obtain⟨K2,e⟩:∃K:Nat,(belowF zs 2 s).1=K:=⟨(belowF zs 2 s).1.toNat,by omega⟩
 obtain⟨u,hu⟩:∃u,(belowF zs 2 s).2=u:=⟨_,rfl⟩
 have hb:=belowF_bd zs 16 u (by omega)
 obtain⟨K,hK⟩:∃K:Nat,(belowF zs 16 u).1=K:=⟨(belowF zs 16 u).1.toNat,by omega⟩
 obtain⟨t,ht⟩:∃t,(belowF zs 16 u).2=t:=⟨_,rfl⟩
 have e2:(exactG zs).bl 2 s=(K2,u):=by
  show((belowF zs 2 s).1.toNat,(belowF zs 2 s).2)=_
  rw[e,hu,Int.toNat_natCast]
 have y:(exactG zs).bl 16 u=(K,t):=by
  show((belowF zs 16 u).1.toNat,(belowF zs 16 u).2)=_
  rw[hK,ht,Int.toNat_natCast]
 have hq:stepG (exactG zs) E1 E2 E3 s=armG (exactG zs) E1 E2 E3 K2 K t:=by
  rw[step_arm,e2]
  show armG (exactG zs) E1 E2 E3 K2 ((exactG zs).bl 16 u).1 ((exactG zs).bl 16 u).2=_
  rw[y]
 rw[hq]
 rw[e]at F
 have j:K2<2:=by omega
 clear hq e2 y
 rcases(show K=0∨K=1∨K=2∨K=3∨K=4∨K=5∨K=6∨K=7∨K=8∨K=9∨K=10∨K=11∨K=12∨K=13∨K=14∨K=15 by rw[hK]at hb;omega)with rfl|rfl|rfl|rfl|rfl|rfl|rfl|rfl|rfl|rfl|rfl|rfl|rfl|rfl|rfl|rfl
 ·exact arm0 hA H e j hu hK ht
 ·exact arm1 hA H e j hu hK ht
 ·exact arm2 hA H e j hu hK ht
 ·exact arm3 hA H e j hu hK ht
 ·exact arm4 hA H e j hu hK ht
 ·exact arm5 hA H e j hu hK ht
 ·exact arm6 hA H e j hu hK ht
 ·exact arm7 hA H e j hu hK ht
 ·exact arm8 hA H e j hu hK ht
 ·exact arm9 hA H e j hu hK ht
 ·exact arm10 hA H e j hu hK ht
 ·exact arm11 hA H e j hu hK ht
 ·exact arm12 hA H e j hu hK ht
 ·exact arm13 hA H e j hu hK ht
 ·exact arm14 hA H e j hu hK ht
 ·exact arm15 hA H e j hu hK ht
set_option maxHeartbeats 1600000 in
theorem expr_leaf{w:World}{s:St}(D:Int)(hD: -100≤D∧D≤0)(H:In B w p a len cap zs s):
  Calls Tryz.prog 83 #[.pointer (some ⟨p,0,none⟩),.int .i64 D] w (TOut B p a len cap zs (leafG (exactG zs) s).1 (leafG (exactG zs) s).2 w):=by
 have HI:=hid H
 clear H
 obtain⟨d0,d1⟩:=hD
 go_enter Tryz.func83,Tryz.ntmps83
 go_wp2_with fail
 refine(leaf_ok HI.out).mono ?_
 rintro e w3 ho
 have HM:=hid ho
 clear ho
 obtain⟨vz,rfl,_⟩:=HM.out
 go_wp2
 go_ret
 exact HM.out
theorem kZ_le:∀d,d≤6→kZ d≤5000:=by decide
theorem expr_all(B p len cap:Nat)(a:Option Addr)(zs:List Int):∀d:Nat,d≤7→ExprC B p len cap a zs 83 (d:Int) (exprs (exactG zs) d).1∧ExprC B p len cap a zs 83 ((d:Int)-1) (exprs (exactG zs) d).2.1∧ExprC B p len cap a zs 83 ((d:Int)-2) (exprs (exactG zs) d).2.2:=by
 intro d
 induction d with
 |zero=>intro _;exact⟨fun w s H=>expr_leaf _ (by decide) H,fun w s H=>expr_leaf _ (by decide) H,fun w s H=>expr_leaf _ (by decide) H⟩
 |succ d ih=>
  intro hd
  obtain⟨i1,i2,i3⟩:=ih (by omega)
  obtain⟨m1,m2,m3⟩:=exprs_small zs d
  refine⟨fun w s H=> ?_, ?_, ?_⟩
  ·exact step_ok (k:=kZ d) (D:=((d+1:Nat):Int)) ⟨by omega,by omega,by rw[show((d+1:Nat):Int)-1=(d:Int) by omega];exact i1,by rw[show((d+1:Nat):Int)-2=(d:Int)-1 by omega];exact i2,by rw[show((d+1:Nat):Int)-3=(d:Int)-2 by omega];exact i3,m1,m2,m3,kZ_le d (by omega)⟩ H
  ·rw[show((d+1:Nat):Int)-1=(d:Int) by omega];exact i1
  ·rw[show((d+1:Nat):Int)-2=(d:Int)-1 by omega];exact i2
theorem expr_ok(d:Nat)(hd:d≤7)(B p len cap:Nat)(a:Option Addr)(zs:List Int):ExprC B p len cap a zs 83 (d:Int) (exprG (exactG zs) d):=(expr_all B p len cap a zs d hd).1
end
end Go.Proofs.YtnoagleifffkcaaGreatDoor.draw

namespace Go.Proofs.YtnoagleifffkcaaGreatDoor.draw
open Lib (hid)
open Go.ChangeShapes Go.WideShapes Go.ChangeAt Go.RowKit
open nd
set_option linter.unusedVariables false
section
variable {B p len cap:Nat} {a:Option Addr} {zs:List Int}
theorem bl_cast(n:Nat)(s:St)(hn:0<n):(((exactG zs).bl n s).1:Int)=(belowF zs n s).1:=by
 have h:=belowF_bd zs n s (by omega)
 show(((belowF zs n s).1.toNat:Nat):Int)=_
 omega
theorem bl_ok{w:World}{s:St}{K:Nat}(n:Nat)(hn:0<n)(hK:((exactG zs).bl n s).1=K)(H:In B w p a len cap zs s):
  Calls Tryz.prog 48 #[.pointer (some ⟨p,0,none⟩),.int .i64 n] w (Out B p a len cap zs (.int .i64 K) ((exactG zs).bl n s).2 w):=by
 rw[←hK,bl_cast n s hn]
 exact below_any n H
theorem once_yes{w:World}{s:St}(n:Nat)(hn:0<n)(hK:((exactG zs).bl n s).1=0)(H:In B w p a len cap zs s):
  Calls Tryz.prog 45 #[.pointer (some ⟨p,0,none⟩),.int .i64 n] w (Out B p a len cap zs (.bool true) ((exactG zs).bl n s).2 w):=by
 have h:=bl_cast (zs:=zs) n s hn
 rw[show(true:Bool)=((belowF zs n s).1==0) by rw[←h,hK];rfl]
 exact once_any n H
theorem once_no{w:World}{s:St}(n:Nat)(hn:0<n)(hK:¬((exactG zs).bl n s).1=0)(H:In B w p a len cap zs s):
  Calls Tryz.prog 45 #[.pointer (some ⟨p,0,none⟩),.int .i64 n] w (Out B p a len cap zs (.bool false) ((exactG zs).bl n s).2 w):=by
 have h:=bl_cast (zs:=zs) n s hn
 rw[show(false:Bool)=((belowF zs n s).1==0) by rw[←h];simp;omega]
 exact once_any n H
theorem maybe_ok{D:Int}{E:St→List Nd×St}(hD: -100≤D∧D≤100)(h:ExprC B p len cap a zs 83 D E):ExprC B p len cap a zs 190 D (maybeG (exactG zs) E):=by
 intro w s H
 have HI:=hid H
 have HE:=hid h
 clear H h
 by_cases hc:((exactG zs).bl 3 s).1=0
 ·have HQ:=hid (show maybeG (exactG zs) E s=(leaf 16 ⟨#[]⟩,((exactG zs).bl 3 s).2) by unfold maybeG;rw[if_pos hc];rfl)
  go_enter Tryz.func190,Tryz.ntmps190
  go_wp2_with fail
  refine(once_yes 3 (by decide) hc HI.out).mono ?_
  rintro e w1 ⟨rfl,I1,G1⟩
  have j:=hid (grown_trans (grown_refl) G1)
  have y:=j.size
  clear G1
  have HM:=hid (TOut.leaf0 16 ⟨#[]⟩ I1 HI.lt (j.out))
  go_wp2
  go_ret
  rw[HQ.out]
  exact HM.out
 ·have HQ:=hid (show maybeG (exactG zs) E s=E ((exactG zs).bl 3 s).2 by unfold maybeG;rw[if_neg hc])
  go_enter Tryz.func190,Tryz.ntmps190
  go_wp2_with fail
  refine(once_no 3 (by decide) hc HI.out).mono ?_
  rintro e w1 ⟨rfl,I1,G1⟩
  have j:=hid (grown_trans (grown_refl) G1)
  have y:=j.size
  clear G1
  go_wp2_with fail
  refine(HE.out _ _ I1).mono ?_
  rintro e w2 ho
  have HM:=hid (TOut.back (j.out) HI.lt ho)
  clear ho
  obtain⟨vz,rfl,_⟩:=HM.out
  go_wp2
  go_ret
  rw[HQ.out]
  exact HM.out
def printG{σ T:Type}(g:Gen σ T)(E0 E1:σ→T×σ)(u:σ):T×σ:=
 if(g.bl 3 (listG g E0 (g.bl 2 u).1 3 (g.bl 2 u).2).2).1=0 then
  (g.nd ⟨21,((g.bl 2 u).1:Int),⟨#[]⟩,(pkG g l7OutL (g.bl 3 (listG g E0 (g.bl 2 u).1 3 (g.bl 2 u).2).2).2).1,[]⟩ ((listG g E0 (g.bl 2 u).1 3 (g.bl 2 u).2).1++[(E1 (pkG g l7OutL (g.bl 3 (listG g E0 (g.bl 2 u).1 3 (g.bl 2 u).2).2).2).2).1]),(E1 (pkG g l7OutL (g.bl 3 (listG g E0 (g.bl 2 u).1 3 (g.bl 2 u).2).2).2).2).2)
 else(g.nd (nodeO 21 ((g.bl 2 u).1:Int)) (listG g E0 (g.bl 2 u).1 3 (g.bl 2 u).2).1,(g.bl 3 (listG g E0 (g.bl 2 u).1 3 (g.bl 2 u).2).2).2)
def simpA{σ T:Type}(g:Gen σ T)(E0 E1:σ→T×σ)(b:Nat)(t:σ):T×σ:=
 match b with
 |0=>printG g E0 E1 t
 |1=>printG g E0 E1 t
 |2=>(g.nd (nodeO (piG g [22,25,26] t).1 0) [],(piG g [22,25,26] t).2)
 |3=>let o:=piG g [23,24] t;let l:=listG g E0 0 1 o.2;(g.nd (nodeO o.1 0) l.1,l.2)
 |4=>let x:=pkG g l2WordL t;let l:=listG g E1 0 2 x.2;(g.nd (nodeS 27 x.1) l.1,l.2)
 |5=>if(g.bl 2 t).1=0 then(g.nd (nodeS 34 (pkG g l7NoteL (g.bl 2 t).2).1) [],(pkG g l7NoteL (g.bl 2 t).2).2)else(g.nd (nodeO 20 0) [(E0 (g.bl 2 t).2).1],(E0 (g.bl 2 t).2).2)
 |_=>(g.nd (nodeO 20 0) [(E0 t).1],(E0 t).2)
theorem good_partsN{n:Nd}{w2:World}{a2:Option Addr}{qs:List (List Nd)}{m cap2:Nat}(hm:m=qs.length)(hp:Parts w2.heap.size w2 a2 qs)(hg:∀q∈qs,Good q)(hl:qs.length≤5):
  Calls Tryz.prog 129 #[.agg #[.int .i64 n.k,.int .i64 n.op,.string n.s,.string n.t,.slice none 0 0],.slice a2 m cap2] w2 (PgOut (makeT n qs) w2):=by
 subst hm
 exact good_parts hp hg hl
theorem simple_arm{σ T:Type}(g:Gen σ T)(E0 E1:σ→T×σ)(s:σ):simpleG g E0 E1 s=simpA g E0 E1 (g.bl 9 s).1 (g.bl 9 s).2:=rfl
structure Sim(B p len cap:Nat)(a:Option Addr)(zs:List Int)(D:Int)(E0 E1:St→List Nd×St)(k:Nat):Prop where
 d0:0≤D
 d1:D≤100
 h0:ExprC B p len cap a zs 83 D E0
 h1:ExprC B p len cap a zs 83 (D-1) E1
 s0:SmE k E0
 s1:SmE k E1
 hk:k≤5000
variable {D:Int} {E0 E1:St→List Nd×St} {k:Nat}
theorem Sim.g0(h:Sim B p len cap a zs D E0 E1 k)(s:St):Good (E0 s).1:=(h.s0 s).good (by have:=h.hk;omega)
theorem Sim.g1(h:Sim B p len cap a zs D E0 E1 k)(s:St):Good (E1 s).1:=(h.s1 s).good (by have:=h.hk;omega)
set_option maxHeartbeats 1600000 in
theorem simp2{w:World}{s t:St}(hA:Sim B p len cap a zs D E0 E1 k)(H:In B w p a len cap zs s)(hK:((exactG zs).bl 9 s).1=2)(ht:((exactG zs).bl 9 s).2=t):
  Calls Tryz.prog 188 #[.pointer (some ⟨p,0,none⟩),.int .i64 D] w (TOut B p a len cap zs (simpA (exactG zs) E0 E1 2 t).1 (simpA (exactG zs) E0 E1 2 t).2 w):=by
 have HA:=hid hA
 have HI:=hid H
 have HK:=hid hK
 have HT:=hid ht
 have d0:=hA.d0
 have d1:=hA.d1
 clear hA H hK ht
 go_enter Tryz.func188,Tryz.ntmps188
 go_wp2_with fail
 refine(bl_ok 9 (by decide) HK.out HI.out).mono ?_
 rintro e w0 ⟨rfl,I0,G0⟩
 rw[HT.out]at I0
 have y:=G0.size
 go_wp2_with fail
 refine(pickInt_lit 3 [22,25,26] I0 rfl (by decide) (by decide)).mono ?_
 rintro e w1 ⟨⟨rfl,I1,G1⟩,Z1⟩
 have j:=hid (grown_trans (G0) G1)
 have F:=j.size
 clear G1
 have HM:=hid (TOut.leaf0 (piG (exactG zs) [22,25,26] t).1 ⟨#[]⟩ I1 HI.lt (j.out))
 go_wp2
 go_ret
 exact HM.out
set_option maxHeartbeats 1600000 in
theorem simp3{w:World}{s t:St}(hA:Sim B p len cap a zs D E0 E1 k)(H:In B w p a len cap zs s)(hK:((exactG zs).bl 9 s).1=3)(ht:((exactG zs).bl 9 s).2=t):
  Calls Tryz.prog 188 #[.pointer (some ⟨p,0,none⟩),.int .i64 D] w (TOut B p a len cap zs (simpA (exactG zs) E0 E1 3 t).1 (simpA (exactG zs) E0 E1 3 t).2 w):=by
 have HA:=hid hA
 have HI:=hid H
 have HK:=hid hK
 have HT:=hid ht
 have d0:=hA.d0
 have d1:=hA.d1
 clear hA H hK ht
 go_enter Tryz.func188,Tryz.ntmps188
 go_wp2_with fail
 refine(bl_ok 9 (by decide) HK.out HI.out).mono ?_
 rintro e w0 ⟨rfl,I0,G0⟩
 rw[HT.out]at I0
 have K:=G0.size
 go_wp2_with fail
 refine(pickInt_lit 2 [23,24] I0 rfl (by decide) (by decide)).mono ?_
 rintro e w1 ⟨⟨rfl,I1,G1⟩,Z1⟩
 have G:=hid (grown_trans (G0) G1)
 have O:=G.size
 clear G1
 go_wp2_with fail
 refine(list_ok 0 1 _ E0 (by decide) (by decide) HA.h0 I1).mono ?_
 rintro e w2 ⟨g2,c2,I,rfl,L2,F⟩
 have j:=hid L2
 have y:=hid (grown_trans (G.out) F)
 have J:=y.size
 clear L2 F
 go_wp2_with fail
 refine(good_parts (n:=nodeO (piG (exactG zs) [23,24] t).1 0) j.parts (times_all HA.g0 _ _) (Nat.le_trans (list_len zs _ _ _ (by decide) _) (by decide))).mono ?_
 rintro e w3 hmk
 have HM:=hid (TOut.make j.cur HI.lt y.out (Below.refl _ _) hmk)
 clear hmk
 obtain⟨vz,rfl,_⟩:=HM.out
 go_wp2
 go_ret
 exact HM.out
set_option maxHeartbeats 1600000 in
theorem simp4{w:World}{s t:St}(hA:Sim B p len cap a zs D E0 E1 k)(H:In B w p a len cap zs s)(hK:((exactG zs).bl 9 s).1=4)(ht:((exactG zs).bl 9 s).2=t):
  Calls Tryz.prog 188 #[.pointer (some ⟨p,0,none⟩),.int .i64 D] w (TOut B p a len cap zs (simpA (exactG zs) E0 E1 4 t).1 (simpA (exactG zs) E0 E1 4 t).2 w):=by
 have HA:=hid hA
 have HI:=hid H
 have HK:=hid hK
 have HT:=hid ht
 have d0:=hA.d0
 have d1:=hA.d1
 clear hA H hK ht
 go_enter Tryz.func188,Tryz.ntmps188
 go_wp2_with fail
 refine(bl_ok 9 (by decide) HK.out HI.out).mono ?_
 rintro e w0 ⟨rfl,I0,G0⟩
 rw[HT.out]at I0
 have K:=G0.size
 go_wp2_with fail
 refine(word_ok I0).mono ?_
 rintro e w1 ⟨⟨rfl,I1,G1⟩,Z1⟩
 have G:=hid (grown_trans (G0) G1)
 have O:=G.size
 clear G1
 go_wp2_with fail
 refine(list_ok 0 2 _ E1 (by decide) (by decide) HA.h1 I1).mono ?_
 rintro e w2 ⟨g2,c2,I,rfl,L2,F⟩
 have j:=hid L2
 have y:=hid (grown_trans (G.out) F)
 have J:=y.size
 clear L2 F
 go_wp2_with fail
 refine(good_parts (n:=nodeS 27 (pkG (exactG zs) l2WordL t).1) j.parts (times_all HA.g1 _ _) (Nat.le_trans (list_len zs _ _ _ (by decide) _) (by decide))).mono ?_
 rintro e w3 hmk
 have HM:=hid (TOut.make j.cur HI.lt y.out (Below.refl _ _) hmk)
 clear hmk
 obtain⟨vz,rfl,_⟩:=HM.out
 go_wp2
 go_ret
 exact HM.out
set_option maxHeartbeats 1600000 in
theorem simp5{w:World}{s t:St}(hA:Sim B p len cap a zs D E0 E1 k)(H:In B w p a len cap zs s)(hK:((exactG zs).bl 9 s).1=5)(ht:((exactG zs).bl 9 s).2=t):
  Calls Tryz.prog 188 #[.pointer (some ⟨p,0,none⟩),.int .i64 D] w (TOut B p a len cap zs (simpA (exactG zs) E0 E1 5 t).1 (simpA (exactG zs) E0 E1 5 t).2 w):=by
 have HA:=hid hA
 have HI:=hid H
 have HK:=hid hK
 have HT:=hid ht
 have d0:=hA.d0
 have d1:=hA.d1
 clear hA H hK ht
 by_cases hc:((exactG zs).bl 2 t).1=0
 ·have HQ:=hid (show simpA (exactG zs) E0 E1 5 t=(leaf 34 (pkG (exactG zs) l7NoteL ((exactG zs).bl 2 t).2).1,(pkG (exactG zs) l7NoteL ((exactG zs).bl 2 t).2).2)from if_pos hc)
  go_enter Tryz.func188,Tryz.ntmps188
  go_wp2_with fail
  refine(bl_ok 9 (by decide) HK.out HI.out).mono ?_
  rintro e w0 ⟨rfl,I0,G0⟩
  rw[HT.out]at I0
  have G:=G0.size
  go_wp2_with fail
  refine(once_yes 2 (by decide) hc I0).mono ?_
  rintro e w1 ⟨rfl,I1,G1⟩
  have y:=hid (grown_trans (G0) G1)
  have I:=y.size
  clear G1
  go_wp2_with fail
  refine(pick_ok 3 l7NoteL I1 rfl (by decide) (by decide)).mono ?_
  rintro e w2 ⟨⟨rfl,I2,G2⟩,Z2⟩
  have j:=hid (grown_trans (y.out) G2)
  have F:=j.size
  clear G2
  have HM:=hid (TOut.leaf0 34 (pkG (exactG zs) l7NoteL ((exactG zs).bl 2 t).2).1 I2 HI.lt (j.out))
  go_wp2
  go_ret
  rw[HQ.out]
  exact HM.out
 ·have HQ:=hid (show simpA (exactG zs) E0 E1 5 t=(makeT (nodeO 20 0) [(E0 ((exactG zs).bl 2 t).2).1],(E0 ((exactG zs).bl 2 t).2).2)from if_neg hc)
  go_enter Tryz.func188,Tryz.ntmps188
  go_wp2_with fail
  refine(bl_ok 9 (by decide) HK.out HI.out).mono ?_
  rintro e w0 ⟨rfl,I0,G0⟩
  rw[HT.out]at I0
  have G:=G0.size
  go_wp2_with fail
  refine(once_no 2 (by decide) hc I0).mono ?_
  rintro e w1 ⟨rfl,I1,G1⟩
  have y:=hid (grown_trans (G0) G1)
  have I:=y.size
  clear G1
  go_wp2_with fail
  refine(HA.h0 _ _ I1).mono ?_
  rintro e w2 ⟨v2,rfl,T2,I2,G2⟩
  obtain⟨a2,c2,rfl⟩:=T2.form
  have j:=hid (grown_trans (y.out) G2)
  have F:=j.size
  clear G2
  have X2:=hid (TR.down T2 (S':=w.heap.size) (by omega) HI.lt)
  clear T2
  go_wp2_with fail
  refine(good_parts (n:=nodeO 20 0) (parts_of [.slice a2 _ c2] [(E0 ((exactG zs).bl 2 t).2).1] rfl (fun i h _=>by have e0:i=0:=(by simpa using h);subst e0;exact X2.out)) (fun q hq=>by
    simp only[List.mem_cons,List.not_mem_nil,or_false]at hq
    rcases hq with rfl
    ·exact HA.g0 _
    ) (by simp)).mono ?_
  rintro e w3 hmk
  have HM:=hid (TOut.make I2 HI.lt (j.out) ((Below.refl _ _).alloc (Nat.le_refl _) _) hmk)
  clear hmk
  obtain⟨vz,rfl,_⟩:=HM.out
  go_wp2
  go_ret
  rw[HQ.out]
  exact HM.out
set_option maxHeartbeats 1600000 in
theorem simp6{w:World}{s t:St}(hA:Sim B p len cap a zs D E0 E1 k)(H:In B w p a len cap zs s)(hK:((exactG zs).bl 9 s).1=6)(ht:((exactG zs).bl 9 s).2=t):
  Calls Tryz.prog 188 #[.pointer (some ⟨p,0,none⟩),.int .i64 D] w (TOut B p a len cap zs (simpA (exactG zs) E0 E1 6 t).1 (simpA (exactG zs) E0 E1 6 t).2 w):=by
 have HA:=hid hA
 have HI:=hid H
 have HK:=hid hK
 have HT:=hid ht
 have d0:=hA.d0
 have d1:=hA.d1
 clear hA H hK ht
 go_enter Tryz.func188,Tryz.ntmps188
 go_wp2_with fail
 refine(bl_ok 9 (by decide) HK.out HI.out).mono ?_
 rintro e w0 ⟨rfl,I0,G0⟩
 rw[HT.out]at I0
 have y:=G0.size
 go_wp2_with fail
 refine(HA.h0 _ _ I0).mono ?_
 rintro e w1 ⟨v1,rfl,T1,I1,G1⟩
 obtain⟨a1,c1,rfl⟩:=T1.form
 have j:=hid (grown_trans (G0) G1)
 have F:=j.size
 clear G1
 have X1:=hid (TR.down T1 (S':=w.heap.size) (by omega) HI.lt)
 clear T1
 go_wp2_with fail
 refine(good_parts (n:=nodeO 20 0) (parts_of [.slice a1 _ c1] [(E0 t).1] rfl (fun i h _=>by have e0:i=0:=(by simpa using h);subst e0;exact X1.out)) (fun q hq=>by
   simp only[List.mem_cons,List.not_mem_nil,or_false]at hq
   rcases hq with rfl
   ·exact HA.g0 _
   ) (by simp)).mono ?_
 rintro e w2 hmk
 have HM:=hid (TOut.make I1 HI.lt (j.out) ((Below.refl _ _).alloc (Nat.le_refl _) _) hmk)
 clear hmk
 obtain⟨vz,rfl,_⟩:=HM.out
 go_wp2
 go_ret
 exact HM.out
set_option maxHeartbeats 1600000 in
theorem simp7{w:World}{s t:St}(hA:Sim B p len cap a zs D E0 E1 k)(H:In B w p a len cap zs s)(hK:((exactG zs).bl 9 s).1=7)(ht:((exactG zs).bl 9 s).2=t):
  Calls Tryz.prog 188 #[.pointer (some ⟨p,0,none⟩),.int .i64 D] w (TOut B p a len cap zs (simpA (exactG zs) E0 E1 7 t).1 (simpA (exactG zs) E0 E1 7 t).2 w):=by
 have HA:=hid hA
 have HI:=hid H
 have HK:=hid hK
 have HT:=hid ht
 have d0:=hA.d0
 have d1:=hA.d1
 clear hA H hK ht
 go_enter Tryz.func188,Tryz.ntmps188
 go_wp2_with fail
 refine(bl_ok 9 (by decide) HK.out HI.out).mono ?_
 rintro e w0 ⟨rfl,I0,G0⟩
 rw[HT.out]at I0
 have y:=G0.size
 go_wp2_with fail
 refine(HA.h0 _ _ I0).mono ?_
 rintro e w1 ⟨v1,rfl,T1,I1,G1⟩
 obtain⟨a1,c1,rfl⟩:=T1.form
 have j:=hid (grown_trans (G0) G1)
 have F:=j.size
 clear G1
 have X1:=hid (TR.down T1 (S':=w.heap.size) (by omega) HI.lt)
 clear T1
 go_wp2_with fail
 refine(good_parts (n:=nodeO 20 0) (parts_of [.slice a1 _ c1] [(E0 t).1] rfl (fun i h _=>by have e0:i=0:=(by simpa using h);subst e0;exact X1.out)) (fun q hq=>by
   simp only[List.mem_cons,List.not_mem_nil,or_false]at hq
   rcases hq with rfl
   ·exact HA.g0 _
   ) (by simp)).mono ?_
 rintro e w2 hmk
 have HM:=hid (TOut.make I1 HI.lt (j.out) ((Below.refl _ _).alloc (Nat.le_refl _) _) hmk)
 clear hmk
 obtain⟨vz,rfl,_⟩:=HM.out
 go_wp2
 go_ret
 exact HM.out
set_option maxHeartbeats 1600000 in
theorem simp8{w:World}{s t:St}(hA:Sim B p len cap a zs D E0 E1 k)(H:In B w p a len cap zs s)(hK:((exactG zs).bl 9 s).1=8)(ht:((exactG zs).bl 9 s).2=t):
  Calls Tryz.prog 188 #[.pointer (some ⟨p,0,none⟩),.int .i64 D] w (TOut B p a len cap zs (simpA (exactG zs) E0 E1 8 t).1 (simpA (exactG zs) E0 E1 8 t).2 w):=by
 have HA:=hid hA
 have HI:=hid H
 have HK:=hid hK
 have HT:=hid ht
 have d0:=hA.d0
 have d1:=hA.d1
 clear hA H hK ht
 go_enter Tryz.func188,Tryz.ntmps188
 go_wp2_with fail
 refine(bl_ok 9 (by decide) HK.out HI.out).mono ?_
 rintro e w0 ⟨rfl,I0,G0⟩
 rw[HT.out]at I0
 have y:=G0.size
 go_wp2_with fail
 refine(HA.h0 _ _ I0).mono ?_
 rintro e w1 ⟨v1,rfl,T1,I1,G1⟩
 obtain⟨a1,c1,rfl⟩:=T1.form
 have j:=hid (grown_trans (G0) G1)
 have F:=j.size
 clear G1
 have X1:=hid (TR.down T1 (S':=w.heap.size) (by omega) HI.lt)
 clear T1
 go_wp2_with fail
 refine(good_parts (n:=nodeO 20 0) (parts_of [.slice a1 _ c1] [(E0 t).1] rfl (fun i h _=>by have e0:i=0:=(by simpa using h);subst e0;exact X1.out)) (fun q hq=>by
   simp only[List.mem_cons,List.not_mem_nil,or_false]at hq
   rcases hq with rfl
   ·exact HA.g0 _
   ) (by simp)).mono ?_
 rintro e w2 hmk
 have HM:=hid (TOut.make I1 HI.lt (j.out) ((Below.refl _ _).alloc (Nat.le_refl _) _) hmk)
 clear hmk
 obtain⟨vz,rfl,_⟩:=HM.out
 go_wp2
 go_ret
 exact HM.out
set_option maxRecDepth 20000 in
set_option maxHeartbeats 1600000 in
theorem simp0{w:World}{s t:St}(hA:Sim B p len cap a zs D E0 E1 k)(H:In B w p a len cap zs s)(hK:((exactG zs).bl 9 s).1=0)(ht:((exactG zs).bl 9 s).2=t):
  Calls Tryz.prog 188 #[.pointer (some ⟨p,0,none⟩),.int .i64 D] w (TOut B p a len cap zs (simpA (exactG zs) E0 E1 0 t).1 (simpA (exactG zs) E0 E1 0 t).2 w):=by
 have HA:=hid hA
 have HI:=hid H
 have HK:=hid hK
 have HT:=hid ht
 have d0:=hA.d0
 have d1:=hA.d1
 clear hA H hK ht
 obtain⟨K2,ad⟩:∃K2,((exactG zs).bl 2 t).1=K2:=⟨_,rfl⟩
 obtain⟨u,hu⟩:∃u,((exactG zs).bl 2 t).2=u:=⟨_,rfl⟩
 have an:=exact_lt zs 2 t (by decide)
 rw[ad]at an
 obtain⟨ql,hql⟩:∃ql,(listG (exactG zs) E0 K2 3 u).1=ql:=⟨_,rfl⟩
 obtain⟨x,hx⟩:∃x,(listG (exactG zs) E0 K2 3 u).2=x:=⟨_,rfl⟩
 have hqn:ql.length≤3:=by rw[←hql];exact list_len zs _ _ _ (by omega) _
 have hqg:∀q∈ql,Good q:=by rw[←hql];exact times_all HA.g0 _ _
 have HQL:=hid hql
 have HX:=hid hx
 have X:=hid ad
 have HU:=hid hu
 have HQG:=hid hqg
 clear ad hu hql hx hqg
 by_cases hc:((exactG zs).bl 3 x).1=0
 ·have HQ:=hid (show simpA (exactG zs) E0 E1 0 t=(makeT ⟨21,(K2:Int),⟨#[]⟩,(pkG (exactG zs) l7OutL ((exactG zs).bl 3 x).2).1,[]⟩ (ql++[(E1 (pkG (exactG zs) l7OutL ((exactG zs).bl 3 x).2).2).1]),(E1 (pkG (exactG zs) l7OutL ((exactG zs).bl 3 x).2).2).2) by
   show printG (exactG zs) E0 E1 t=_
   unfold printG
   rw[X.out,HU.out,HX.out,HQL.out,if_pos hc]
   rfl)
  obtain⟨y,hy⟩:∃y,(pkG (exactG zs) l7OutL ((exactG zs).bl 3 x).2).1=y:=⟨_,rfl⟩
  obtain⟨z,hz⟩:∃z,(pkG (exactG zs) l7OutL ((exactG zs).bl 3 x).2).2=z:=⟨_,rfl⟩
  have HY:=hid hy
  have HZZ:=hid hz
  rw[hy,hz]at HQ
  clear hy hz
  go_enter Tryz.func188,Tryz.ntmps188
  go_wp2_with fail
  refine(bl_ok 9 (by decide) HK.out HI.out).mono ?_
  rintro e w0 ⟨rfl,I0,G0⟩
  rw[HT.out]at I0
  have ao:=G0.size
  have a1:=HI.lt
  go_wp2_with fail
  refine(bl_ok 2 (by decide) X.out I0).mono ?_
  rintro e w1 ⟨rfl,I1,G1⟩
  rw[HU.out]at I1
  have S:=hid (grown_trans G0 G1)
  have Y:=S.size
  obtain⟨wb,hwb⟩:∃wb,wb=w1.alloc (.cells #[.int .i64 21,.int .i64 (K2:Int),.string ⟨#[]⟩,.string ⟨#[]⟩,.slice none 0 0] 57):=⟨_,rfl⟩
  have HWB:=hid hwb
  have hbb:wb.heap[w1.heap.size]? =some (.cells #[.int .i64 21,.int .i64 (K2:Int),.string ⟨#[]⟩,.string ⟨#[]⟩,.slice none 0 0] 57 (0,0)):=by rw[hwb];exact heap_alloc_new w1 _
  have hsb:wb.heap.size=w1.heap.size+1:=by rw[hwb];simp
  have hbw:Below w1.heap.size w1 wb:=by rw[hwb];exact(Below.refl _ _).alloc (Nat.le_refl _) _
  have IB:=hid (I1.keep hbw I1.lt)
  have GB:=hid (grown_below S.out (hbw.mono Y) rfl)
  have b1:wb.cell? ⟨w1.heap.size,1,none⟩=some (.int .i64 (K2:Int)):=by rw[cell_of_row _ _ 1 _ _ _ hbb];rfl
  clear hwb hbw G0 G1
  go_wp2_with fail
  rw[←HWB.out]
  refine(list_ok K2 3 _ E0 (by omega) (by decide) HA.h0 IB.out).mono ?_
  rintro e w3 ⟨g3,c3,K,he,L3,F⟩
  rw[HQL.out]at he L3
  rw[HX.out]at L3
  rw[←L3.ln]at he
  subst he
  have J:=hid L3
  have ae:=hid (grown_trans GB.out F)
  have P:w3.heap[w1.heap.size]? =some (.cells #[.int .i64 21,.int .i64 (K2:Int),.string ⟨#[]⟩,.string ⟨#[]⟩,.slice none 0 0] 57 (0,0)):=by rw[F.block _ (by rw[hsb];omega) (by simp;omega)];exact hbb
  have aa:=hid P
  have ap:=F.size
  clear L3 F b1 hbb P
  go_wp2_with fail
  refine(once_yes 3 (by decide) hc J.cur).mono ?_
  rintro e w4 ⟨rfl,I4,G4⟩
  have Z:=hid (J.next I4 G4)
  have ac:=hid (grown_trans ae.out G4)
  have j:w4.heap[w1.heap.size]? =some (.cells #[.int .i64 21,.int .i64 (K2:Int),.string ⟨#[]⟩,.string ⟨#[]⟩,.slice none 0 0] 57 (0,0)):=by rw[G4.block _ (by omega) (by simp;omega)];exact aa.out
  have al:=hid j
  have a0:=G4.size
  clear G4 j
  go_wp2_with fail
  refine(pick_ok 3 l7OutL I4 rfl (by decide) (by decide)).mono ?_
  rintro e w5 ⟨⟨he,I5,G5⟩,Z5⟩
  rw[HY.out]at he
  rw[HZZ.out]at I5
  subst he
  have ax:=hid (Z.next I5 G5)
  have ar:=hid (grown_trans ac.out G5)
  have V:w5.heap[w1.heap.size]? =some (.cells #[.int .i64 21,.int .i64 (K2:Int),.string ⟨#[]⟩,.string ⟨#[]⟩,.slice none 0 0] 57 (0,0)):=by rw[G5.block _ (by omega) (by simp;omega)];exact al.out
  have y5:w5.cell? ⟨w1.heap.size,3,none⟩=some (.string ⟨#[]⟩):=by rw[cell_of_row _ _ 3 _ _ _ V];rfl
  have f5:w5.frozen? ⟨w1.heap.size,3,none⟩=false:=frozen_of_row _ _ 3 _ _ V
  have a6:=G5.size
  obtain⟨w6,G⟩:∃w6,w6=w5.setCell ⟨w1.heap.size,3,none⟩ (.string y):=⟨_,rfl⟩
  have a3:=hid G
  have ab:=hid (show LS B p len cap a zs wb.heap.size g3 c3 K ql z w6 by rw[G];exact ax.set _ 3 _ (by omega) (by omega))
  have ag:w6.heap[w1.heap.size]? =some (.cells #[.int .i64 21,.int .i64 (K2:Int),.string ⟨#[]⟩,.string y,.slice none 0 0] 57 (0,0)):=by rw[G];exact heap_setCell_same _ _ 3 _ _ _ V
  have au:=hid (show w.grownBy w6 (some p) by rw[G];exact grown_below ar.out ((Below.refl w.heap.size w5).setCell (p:=⟨w1.heap.size,3,none⟩) Y _) rfl)
  have am:=hid ag
  have a5:w6.heap.size=w5.heap.size:=by rw[G];simp[World.setCell]
  clear G5 V G ag I5 I4
  go_wp2_with fail
  rw[←a3.out]
  refine(HA.h1 _ _ ab.cur).mono ?_
  rintro e w7 ⟨u7,rfl,T7,I7,G7⟩
  obtain⟨a7,c7,rfl⟩:=T7.form
  have a2:=hid T7
  have I:=hid (ab.next I7 G7)
  have az:=hid (grown_trans au.out G7)
  have aj:w7.heap[w1.heap.size]? =some (.cells #[.int .i64 21,.int .i64 (K2:Int),.string ⟨#[]⟩,.string y,.slice none 0 0] 57 (0,0)):=by rw[G7.block _ (by omega) (by simp;omega)];exact am.out
  have ay:=hid aj
  have a4:=G7.size
  have ah:=hid ab.g_lt
  have hvn:K.length≤3:=by have:=I.ln;omega
  clear T7 I7 G7 aj y5 f5
  go_wp2_with (refine wpList_append_tree _ _ rfl _ _ rfl wb.heap.size (.slice (some ⟨g3,0,none⟩) K.length c3) K rfl I.own rfl rfl (by omega) I.lw ?_;intro g8 c8 w8 aw af av;have ai:=hid (I.push a2.out ah.out.2 aw af (av.imp (fun e=>by simpa [Value.ownBlock]using e) id));have aq:=hid (I.grown az.out (by omega) af);have O:w8.heap[w1.heap.size]? =some (.cells #[.int .i64 21,.int .i64 (K2:Int),.string ⟨#[]⟩,.string y,.slice none 0 0] 57 (0,0)):=(af.block _ (by omega) (by have:=ah.out.1;simp[Value.ownBlock];omega)).trans ay.out;have k0:w8.cell? ⟨w1.heap.size,0,none⟩=some (.int .i64 21):=(cell_of_row _ _ 0 _ _ _ O).trans rfl;have k1:w8.cell? ⟨w1.heap.size,1,none⟩=some (.int .i64 (K2:Int)):=(cell_of_row _ _ 1 _ _ _ O).trans rfl;have k2:w8.cell? ⟨w1.heap.size,2,none⟩=some (.string ⟨#[]⟩):=(cell_of_row _ _ 2 _ _ _ O).trans rfl;have k3:w8.cell? ⟨w1.heap.size,3,none⟩=some (.string y):=(cell_of_row _ _ 3 _ _ _ O).trans rfl;have k4:w8.cell? ⟨w1.heap.size,4,none⟩=some (.slice none 0 0):=(cell_of_row _ _ 4 _ _ _ O).trans rfl)
  refine(good_partsN (n:=⟨21,(K2:Int),⟨#[]⟩,y,[]⟩) (qs:=ql++[(E1 z).1]) (by have:=I.ln;simp;omega) ai.parts (fun q hq=>by
   rcases List.mem_append.1 hq with h|h
   ·exact HQG.out q h
   ·rw[List.mem_singleton]at h;rw[h];exact HA.g1 _) (by simp;omega)).mono ?_
  rintro e w9 hmk
  have HM:=hid (TOut.make ai.cur HI.lt aq.out (Below.refl _ _) hmk)
  clear hmk
  obtain⟨vz,rfl,_⟩:=HM.out
  go_wp2
  go_ret
  rw[HQ.out]
  exact HM.out
 ·have HQ:=hid (show simpA (exactG zs) E0 E1 0 t=(makeT (nodeO 21 (K2:Int)) ql,((exactG zs).bl 3 x).2) by
   show printG (exactG zs) E0 E1 t=_
   unfold printG
   rw[X.out,HU.out,HX.out,HQL.out,if_neg hc]
   rfl)
  go_enter Tryz.func188,Tryz.ntmps188
  go_wp2_with fail
  refine(bl_ok 9 (by decide) HK.out HI.out).mono ?_
  rintro e w0 ⟨rfl,I0,G0⟩
  rw[HT.out]at I0
  have ao:=G0.size
  have a1:=HI.lt
  go_wp2_with fail
  refine(bl_ok 2 (by decide) X.out I0).mono ?_
  rintro e w1 ⟨rfl,I1,G1⟩
  rw[HU.out]at I1
  have S:=hid (grown_trans G0 G1)
  have Y:=S.size
  obtain⟨wb,hwb⟩:∃wb,wb=w1.alloc (.cells #[.int .i64 21,.int .i64 (K2:Int),.string ⟨#[]⟩,.string ⟨#[]⟩,.slice none 0 0] 57):=⟨_,rfl⟩
  have HWB:=hid hwb
  have hbb:wb.heap[w1.heap.size]? =some (.cells #[.int .i64 21,.int .i64 (K2:Int),.string ⟨#[]⟩,.string ⟨#[]⟩,.slice none 0 0] 57 (0,0)):=by rw[hwb];exact heap_alloc_new w1 _
  have hsb:wb.heap.size=w1.heap.size+1:=by rw[hwb];simp
  have hbw:Below w1.heap.size w1 wb:=by rw[hwb];exact(Below.refl _ _).alloc (Nat.le_refl _) _
  have IB:=hid (I1.keep hbw I1.lt)
  have GB:=hid (grown_below S.out (hbw.mono Y) rfl)
  have b1:wb.cell? ⟨w1.heap.size,1,none⟩=some (.int .i64 (K2:Int)):=by rw[cell_of_row _ _ 1 _ _ _ hbb];rfl
  clear hwb hbw G0 G1
  go_wp2_with fail
  rw[←HWB.out]
  refine(list_ok K2 3 _ E0 (by omega) (by decide) HA.h0 IB.out).mono ?_
  rintro e w3 ⟨g3,c3,K,he,L3,F⟩
  rw[HQL.out]at he L3
  rw[HX.out]at L3
  subst he
  have J:=hid L3
  have ae:=hid (grown_trans GB.out F)
  have P:w3.heap[w1.heap.size]? =some (.cells #[.int .i64 21,.int .i64 (K2:Int),.string ⟨#[]⟩,.string ⟨#[]⟩,.slice none 0 0] 57 (0,0)):=by rw[F.block _ (by rw[hsb];omega) (by simp;omega)];exact hbb
  have aa:=hid P
  have ap:=F.size
  clear L3 F b1 hbb P
  go_wp2_with fail
  refine(once_no 3 (by decide) hc J.cur).mono ?_
  rintro e w4 ⟨rfl,I4,G4⟩
  have Z:=hid (J.next I4 G4)
  have ac:=hid (grown_trans ae.out G4)
  have j:w4.heap[w1.heap.size]? =some (.cells #[.int .i64 21,.int .i64 (K2:Int),.string ⟨#[]⟩,.string ⟨#[]⟩,.slice none 0 0] 57 (0,0)):=by rw[G4.block _ (by omega) (by simp;omega)];exact aa.out
  have al:=hid j
  have a0:=G4.size
  have k0:w4.cell? ⟨w1.heap.size,0,none⟩=some (.int .i64 21):=(cell_of_row _ _ 0 _ _ _ j).trans rfl
  have k1:w4.cell? ⟨w1.heap.size,1,none⟩=some (.int .i64 (K2:Int)):=(cell_of_row _ _ 1 _ _ _ j).trans rfl
  have k2:w4.cell? ⟨w1.heap.size,2,none⟩=some (.string ⟨#[]⟩):=(cell_of_row _ _ 2 _ _ _ j).trans rfl
  have k3:w4.cell? ⟨w1.heap.size,3,none⟩=some (.string ⟨#[]⟩):=(cell_of_row _ _ 3 _ _ _ j).trans rfl
  have k4:w4.cell? ⟨w1.heap.size,4,none⟩=some (.slice none 0 0):=(cell_of_row _ _ 4 _ _ _ j).trans rfl
  clear G4 j I4
  go_wp2_with fail
  refine(good_parts (n:=nodeO 21 (K2:Int)) Z.parts HQG.out (by omega)).mono ?_
  rintro e w9 hmk
  have HM:=hid (TOut.make Z.cur HI.lt ac.out (Below.refl _ _) hmk)
  clear hmk
  obtain⟨vz,rfl,_⟩:=HM.out
  go_wp2
  go_ret
  rw[HQ.out]
  exact HM.out
set_option maxRecDepth 20000 in
set_option maxHeartbeats 1600000 in
theorem simp1{w:World}{s t:St}(hA:Sim B p len cap a zs D E0 E1 k)(H:In B w p a len cap zs s)(hK:((exactG zs).bl 9 s).1=1)(ht:((exactG zs).bl 9 s).2=t):
  Calls Tryz.prog 188 #[.pointer (some ⟨p,0,none⟩),.int .i64 D] w (TOut B p a len cap zs (simpA (exactG zs) E0 E1 1 t).1 (simpA (exactG zs) E0 E1 1 t).2 w):=by
 have HA:=hid hA
 have HI:=hid H
 have HK:=hid hK
 have HT:=hid ht
 have d0:=hA.d0
 have d1:=hA.d1
 clear hA H hK ht
 obtain⟨K2,ad⟩:∃K2,((exactG zs).bl 2 t).1=K2:=⟨_,rfl⟩
 obtain⟨u,hu⟩:∃u,((exactG zs).bl 2 t).2=u:=⟨_,rfl⟩
 have an:=exact_lt zs 2 t (by decide)
 rw[ad]at an
 obtain⟨ql,hql⟩:∃ql,(listG (exactG zs) E0 K2 3 u).1=ql:=⟨_,rfl⟩
 obtain⟨x,hx⟩:∃x,(listG (exactG zs) E0 K2 3 u).2=x:=⟨_,rfl⟩
 have hqn:ql.length≤3:=by rw[←hql];exact list_len zs _ _ _ (by omega) _
 have hqg:∀q∈ql,Good q:=by rw[←hql];exact times_all HA.g0 _ _
 have HQL:=hid hql
 have HX:=hid hx
 have X:=hid ad
 have HU:=hid hu
 have HQG:=hid hqg
 clear ad hu hql hx hqg
 by_cases hc:((exactG zs).bl 3 x).1=0
 ·have HQ:=hid (show simpA (exactG zs) E0 E1 1 t=(makeT ⟨21,(K2:Int),⟨#[]⟩,(pkG (exactG zs) l7OutL ((exactG zs).bl 3 x).2).1,[]⟩ (ql++[(E1 (pkG (exactG zs) l7OutL ((exactG zs).bl 3 x).2).2).1]),(E1 (pkG (exactG zs) l7OutL ((exactG zs).bl 3 x).2).2).2) by
   show printG (exactG zs) E0 E1 t=_
   unfold printG
   rw[X.out,HU.out,HX.out,HQL.out,if_pos hc]
   rfl)
  obtain⟨y,hy⟩:∃y,(pkG (exactG zs) l7OutL ((exactG zs).bl 3 x).2).1=y:=⟨_,rfl⟩
  obtain⟨z,hz⟩:∃z,(pkG (exactG zs) l7OutL ((exactG zs).bl 3 x).2).2=z:=⟨_,rfl⟩
  have HY:=hid hy
  have HZZ:=hid hz
  rw[hy,hz]at HQ
  clear hy hz
  go_enter Tryz.func188,Tryz.ntmps188
  go_wp2_with fail
  refine(bl_ok 9 (by decide) HK.out HI.out).mono ?_
  rintro e w0 ⟨rfl,I0,G0⟩
  rw[HT.out]at I0
  have ao:=G0.size
  have a1:=HI.lt
  go_wp2_with fail
  refine(bl_ok 2 (by decide) X.out I0).mono ?_
  rintro e w1 ⟨rfl,I1,G1⟩
  rw[HU.out]at I1
  have S:=hid (grown_trans G0 G1)
  have Y:=S.size
  obtain⟨wb,hwb⟩:∃wb,wb=w1.alloc (.cells #[.int .i64 21,.int .i64 (K2:Int),.string ⟨#[]⟩,.string ⟨#[]⟩,.slice none 0 0] 57):=⟨_,rfl⟩
  have HWB:=hid hwb
  have hbb:wb.heap[w1.heap.size]? =some (.cells #[.int .i64 21,.int .i64 (K2:Int),.string ⟨#[]⟩,.string ⟨#[]⟩,.slice none 0 0] 57 (0,0)):=by rw[hwb];exact heap_alloc_new w1 _
  have hsb:wb.heap.size=w1.heap.size+1:=by rw[hwb];simp
  have hbw:Below w1.heap.size w1 wb:=by rw[hwb];exact(Below.refl _ _).alloc (Nat.le_refl _) _
  have IB:=hid (I1.keep hbw I1.lt)
  have GB:=hid (grown_below S.out (hbw.mono Y) rfl)
  have b1:wb.cell? ⟨w1.heap.size,1,none⟩=some (.int .i64 (K2:Int)):=by rw[cell_of_row _ _ 1 _ _ _ hbb];rfl
  clear hwb hbw G0 G1
  go_wp2_with fail
  rw[←HWB.out]
  refine(list_ok K2 3 _ E0 (by omega) (by decide) HA.h0 IB.out).mono ?_
  rintro e w3 ⟨g3,c3,K,he,L3,F⟩
  rw[HQL.out]at he L3
  rw[HX.out]at L3
  rw[←L3.ln]at he
  subst he
  have J:=hid L3
  have ae:=hid (grown_trans GB.out F)
  have P:w3.heap[w1.heap.size]? =some (.cells #[.int .i64 21,.int .i64 (K2:Int),.string ⟨#[]⟩,.string ⟨#[]⟩,.slice none 0 0] 57 (0,0)):=by rw[F.block _ (by rw[hsb];omega) (by simp;omega)];exact hbb
  have aa:=hid P
  have ap:=F.size
  clear L3 F b1 hbb P
  go_wp2_with fail
  refine(once_yes 3 (by decide) hc J.cur).mono ?_
  rintro e w4 ⟨rfl,I4,G4⟩
  have Z:=hid (J.next I4 G4)
  have ac:=hid (grown_trans ae.out G4)
  have j:w4.heap[w1.heap.size]? =some (.cells #[.int .i64 21,.int .i64 (K2:Int),.string ⟨#[]⟩,.string ⟨#[]⟩,.slice none 0 0] 57 (0,0)):=by rw[G4.block _ (by omega) (by simp;omega)];exact aa.out
  have al:=hid j
  have a0:=G4.size
  clear G4 j
  go_wp2_with fail
  refine(pick_ok 3 l7OutL I4 rfl (by decide) (by decide)).mono ?_
  rintro e w5 ⟨⟨he,I5,G5⟩,Z5⟩
  rw[HY.out]at he
  rw[HZZ.out]at I5
  subst he
  have ax:=hid (Z.next I5 G5)
  have ar:=hid (grown_trans ac.out G5)
  have V:w5.heap[w1.heap.size]? =some (.cells #[.int .i64 21,.int .i64 (K2:Int),.string ⟨#[]⟩,.string ⟨#[]⟩,.slice none 0 0] 57 (0,0)):=by rw[G5.block _ (by omega) (by simp;omega)];exact al.out
  have y5:w5.cell? ⟨w1.heap.size,3,none⟩=some (.string ⟨#[]⟩):=by rw[cell_of_row _ _ 3 _ _ _ V];rfl
  have f5:w5.frozen? ⟨w1.heap.size,3,none⟩=false:=frozen_of_row _ _ 3 _ _ V
  have a6:=G5.size
  obtain⟨w6,G⟩:∃w6,w6=w5.setCell ⟨w1.heap.size,3,none⟩ (.string y):=⟨_,rfl⟩
  have a3:=hid G
  have ab:=hid (show LS B p len cap a zs wb.heap.size g3 c3 K ql z w6 by rw[G];exact ax.set _ 3 _ (by omega) (by omega))
  have ag:w6.heap[w1.heap.size]? =some (.cells #[.int .i64 21,.int .i64 (K2:Int),.string ⟨#[]⟩,.string y,.slice none 0 0] 57 (0,0)):=by rw[G];exact heap_setCell_same _ _ 3 _ _ _ V
  have au:=hid (show w.grownBy w6 (some p) by rw[G];exact grown_below ar.out ((Below.refl w.heap.size w5).setCell (p:=⟨w1.heap.size,3,none⟩) Y _) rfl)
  have am:=hid ag
  have a5:w6.heap.size=w5.heap.size:=by rw[G];simp[World.setCell]
  clear G5 V G ag I5 I4
  go_wp2_with fail
  rw[←a3.out]
  refine(HA.h1 _ _ ab.cur).mono ?_
  rintro e w7 ⟨u7,rfl,T7,I7,G7⟩
  obtain⟨a7,c7,rfl⟩:=T7.form
  have a2:=hid T7
  have I:=hid (ab.next I7 G7)
  have az:=hid (grown_trans au.out G7)
  have aj:w7.heap[w1.heap.size]? =some (.cells #[.int .i64 21,.int .i64 (K2:Int),.string ⟨#[]⟩,.string y,.slice none 0 0] 57 (0,0)):=by rw[G7.block _ (by omega) (by simp;omega)];exact am.out
  have ay:=hid aj
  have a4:=G7.size
  have ah:=hid ab.g_lt
  have hvn:K.length≤3:=by have:=I.ln;omega
  clear T7 I7 G7 aj y5 f5
  go_wp2_with (refine wpList_append_tree _ _ rfl _ _ rfl wb.heap.size (.slice (some ⟨g3,0,none⟩) K.length c3) K rfl I.own rfl rfl (by omega) I.lw ?_;intro g8 c8 w8 aw af av;have ai:=hid (I.push a2.out ah.out.2 aw af (av.imp (fun e=>by simpa [Value.ownBlock]using e) id));have aq:=hid (I.grown az.out (by omega) af);have O:w8.heap[w1.heap.size]? =some (.cells #[.int .i64 21,.int .i64 (K2:Int),.string ⟨#[]⟩,.string y,.slice none 0 0] 57 (0,0)):=(af.block _ (by omega) (by have:=ah.out.1;simp[Value.ownBlock];omega)).trans ay.out;have k0:w8.cell? ⟨w1.heap.size,0,none⟩=some (.int .i64 21):=(cell_of_row _ _ 0 _ _ _ O).trans rfl;have k1:w8.cell? ⟨w1.heap.size,1,none⟩=some (.int .i64 (K2:Int)):=(cell_of_row _ _ 1 _ _ _ O).trans rfl;have k2:w8.cell? ⟨w1.heap.size,2,none⟩=some (.string ⟨#[]⟩):=(cell_of_row _ _ 2 _ _ _ O).trans rfl;have k3:w8.cell? ⟨w1.heap.size,3,none⟩=some (.string y):=(cell_of_row _ _ 3 _ _ _ O).trans rfl;have k4:w8.cell? ⟨w1.heap.size,4,none⟩=some (.slice none 0 0):=(cell_of_row _ _ 4 _ _ _ O).trans rfl)
  refine(good_partsN (n:=⟨21,(K2:Int),⟨#[]⟩,y,[]⟩) (qs:=ql++[(E1 z).1]) (by have:=I.ln;simp;omega) ai.parts (fun q hq=>by
   rcases List.mem_append.1 hq with h|h
   ·exact HQG.out q h
   ·rw[List.mem_singleton]at h;rw[h];exact HA.g1 _) (by simp;omega)).mono ?_
  rintro e w9 hmk
  have HM:=hid (TOut.make ai.cur HI.lt aq.out (Below.refl _ _) hmk)
  clear hmk
  obtain⟨vz,rfl,_⟩:=HM.out
  go_wp2
  go_ret
  rw[HQ.out]
  exact HM.out
 ·have HQ:=hid (show simpA (exactG zs) E0 E1 1 t=(makeT (nodeO 21 (K2:Int)) ql,((exactG zs).bl 3 x).2) by
   show printG (exactG zs) E0 E1 t=_
   unfold printG
   rw[X.out,HU.out,HX.out,HQL.out,if_neg hc]
   rfl)
  go_enter Tryz.func188,Tryz.ntmps188
  go_wp2_with fail
  refine(bl_ok 9 (by decide) HK.out HI.out).mono ?_
  rintro e w0 ⟨rfl,I0,G0⟩
  rw[HT.out]at I0
  have ao:=G0.size
  have a1:=HI.lt
  go_wp2_with fail
  refine(bl_ok 2 (by decide) X.out I0).mono ?_
  rintro e w1 ⟨rfl,I1,G1⟩
  rw[HU.out]at I1
  have S:=hid (grown_trans G0 G1)
  have Y:=S.size
  obtain⟨wb,hwb⟩:∃wb,wb=w1.alloc (.cells #[.int .i64 21,.int .i64 (K2:Int),.string ⟨#[]⟩,.string ⟨#[]⟩,.slice none 0 0] 57):=⟨_,rfl⟩
  have HWB:=hid hwb
  have hbb:wb.heap[w1.heap.size]? =some (.cells #[.int .i64 21,.int .i64 (K2:Int),.string ⟨#[]⟩,.string ⟨#[]⟩,.slice none 0 0] 57 (0,0)):=by rw[hwb];exact heap_alloc_new w1 _
  have hsb:wb.heap.size=w1.heap.size+1:=by rw[hwb];simp
  have hbw:Below w1.heap.size w1 wb:=by rw[hwb];exact(Below.refl _ _).alloc (Nat.le_refl _) _
  have IB:=hid (I1.keep hbw I1.lt)
  have GB:=hid (grown_below S.out (hbw.mono Y) rfl)
  have b1:wb.cell? ⟨w1.heap.size,1,none⟩=some (.int .i64 (K2:Int)):=by rw[cell_of_row _ _ 1 _ _ _ hbb];rfl
  clear hwb hbw G0 G1
  go_wp2_with fail
  rw[←HWB.out]
  refine(list_ok K2 3 _ E0 (by omega) (by decide) HA.h0 IB.out).mono ?_
  rintro e w3 ⟨g3,c3,K,he,L3,F⟩
  rw[HQL.out]at he L3
  rw[HX.out]at L3
  subst he
  have J:=hid L3
  have ae:=hid (grown_trans GB.out F)
  have P:w3.heap[w1.heap.size]? =some (.cells #[.int .i64 21,.int .i64 (K2:Int),.string ⟨#[]⟩,.string ⟨#[]⟩,.slice none 0 0] 57 (0,0)):=by rw[F.block _ (by rw[hsb];omega) (by simp;omega)];exact hbb
  have aa:=hid P
  have ap:=F.size
  clear L3 F b1 hbb P
  go_wp2_with fail
  refine(once_no 3 (by decide) hc J.cur).mono ?_
  rintro e w4 ⟨rfl,I4,G4⟩
  have Z:=hid (J.next I4 G4)
  have ac:=hid (grown_trans ae.out G4)
  have j:w4.heap[w1.heap.size]? =some (.cells #[.int .i64 21,.int .i64 (K2:Int),.string ⟨#[]⟩,.string ⟨#[]⟩,.slice none 0 0] 57 (0,0)):=by rw[G4.block _ (by omega) (by simp;omega)];exact aa.out
  have al:=hid j
  have a0:=G4.size
  have k0:w4.cell? ⟨w1.heap.size,0,none⟩=some (.int .i64 21):=(cell_of_row _ _ 0 _ _ _ j).trans rfl
  have k1:w4.cell? ⟨w1.heap.size,1,none⟩=some (.int .i64 (K2:Int)):=(cell_of_row _ _ 1 _ _ _ j).trans rfl
  have k2:w4.cell? ⟨w1.heap.size,2,none⟩=some (.string ⟨#[]⟩):=(cell_of_row _ _ 2 _ _ _ j).trans rfl
  have k3:w4.cell? ⟨w1.heap.size,3,none⟩=some (.string ⟨#[]⟩):=(cell_of_row _ _ 3 _ _ _ j).trans rfl
  have k4:w4.cell? ⟨w1.heap.size,4,none⟩=some (.slice none 0 0):=(cell_of_row _ _ 4 _ _ _ j).trans rfl
  clear G4 j I4
  go_wp2_with fail
  refine(good_parts (n:=nodeO 21 (K2:Int)) Z.parts HQG.out (by omega)).mono ?_
  rintro e w9 hmk
  have HM:=hid (TOut.make Z.cur HI.lt ac.out (Below.refl _ _) hmk)
  clear hmk
  obtain⟨vz,rfl,_⟩:=HM.out
  go_wp2
  go_ret
  rw[HQ.out]
  exact HM.out
theorem simple_ok(hA:Sim B p len cap a zs D E0 E1 k):ExprC B p len cap a zs 188 D (simpleG (exactG zs) E0 E1):=by
 intro w s H
 obtain⟨K,hK⟩:∃K,((exactG zs).bl 9 s).1=K:=⟨_,rfl⟩
 obtain⟨t,ht⟩:∃t,((exactG zs).bl 9 s).2=t:=⟨_,rfl⟩
 have hb:=exact_lt zs 9 s (by decide)
 rw[simple_arm,hK,ht]
 rw[hK]at hb
 rcases(show K=0∨K=1∨K=2∨K=3∨K=4∨K=5∨K=6∨K=7∨K=8 by omega)with rfl|rfl|rfl|rfl|rfl|rfl|rfl|rfl|rfl
 ·exact simp0 hA H hK ht
 ·exact simp1 hA H hK ht
 ·exact simp2 hA H hK ht
 ·exact simp3 hA H hK ht
 ·exact simp4 hA H hK ht
 ·exact simp5 hA H hK ht
 ·exact simp6 hA H hK ht
 ·exact simp7 hA H hK ht
 ·exact simp8 hA H hK ht
theorem simple_small{k:Nat}(zs:List Int){E0 E1:St→List Nd×St}(h0:SmE k E0)(h1:SmE k E1):SmE (1+4*k) (simpleG (exactG zs) E0 E1):=by
 intro s
 rw[simple_arm]
 have hp:∀t,Small (1+4*k) (printG (exactG zs) E0 E1 t).1:=by
  intro t
  have h2:=exact_lt zs 2 t (by decide)
  obtain⟨l1,l2⟩:=list_small zs h0 ((exactG zs).bl 2 t).1 3 (by omega) ((exactG zs).bl 2 t).2
  unfold printG
  split
  ·refine sm_list (m:=4) _ ⟨fun q hq=> ?_,by simp;omega⟩ (by decide)
   rcases List.mem_append.1 hq with h|h
   ·exact l1 q h
   ·rw[List.mem_singleton]at h;rw[h];exact h1 _
  ·exact(sm_list (m:=3) _ ⟨l1,l2⟩ (by decide)).mono (by omega)
 generalize ((exactG zs).bl 9 s).1=b
 generalize ((exactG zs).bl 9 s).2=t
 rcases b with _|_|_|_|_|_|b
 ·exact hp t
 ·exact hp t
 ·exact(sm0 _).mono (by omega)
 ·exact(sm_list _ (list_small zs h0 0 1 (by omega) _) (by decide)).mono (by omega)
 ·exact(sm_list _ (list_small zs h1 0 2 (by omega) _) (by decide)).mono (by omega)
 ·show Small _ (if((exactG zs).bl 2 t).1=0 then _ else _:List Nd×St).1
  split
  ·exact(sm0 _).mono (by omega)
  ·exact(sm1 _ (h0 _)).mono (by omega)
 ·exact(sm1 _ (h0 _)).mono (by omega)
theorem maybe_small{k:Nat}(zs:List Int){E:St→List Nd×St}(h:SmE k E):SmE (1+k) (maybeG (exactG zs) E):=by
 intro s
 unfold maybeG
 split
 ·exact(sm0 _).mono (by omega)
 ·exact(h _).mono (by omega)
end
end Go.Proofs.YtnoagleifffkcaaGreatDoor.draw

namespace Go.Proofs.YtnoagleifffkcaaGreatDoor.draw
open Lib (hid)
open Go.ChangeShapes Go.WideShapes Go.ChangeAt Go.RowKit
open nd
set_option linter.unusedVariables false
set_option maxRecDepth 20000
section
variable {B p len cap:Nat} {a:Option Addr} {zs:List Int}
set_option maxHeartbeats 1600000 in
theorem block_ok{D:Int}{S:St→List Nd×St}{k:Nat}(hD: -100≤D∧D≤100)(h1:ExprC B p len cap a zs 125 D S)(hs:SmE k S)(hk:k≤20000):ExprC B p len cap a zs 189 D (blockG (exactG zs) S):=by
 intro w s H
 have HI:=hid H
 have H1:=hid h1
 have HS:=hid hs
 have hb:=exact_lt zs 3 s (by decide)
 obtain⟨N,hN⟩:∃N,((exactG zs).bl 3 s).1=N:=⟨_,rfl⟩
 obtain⟨t,ht⟩:∃t,((exactG zs).bl 3 s).2=t:=⟨_,rfl⟩
 rw[hN]at hb
 have HN:=hid hN
 have HT:=hid ht
 have HQ:=hid (show blockG (exactG zs) S s=(makeT (nodeO 33 0) (timesG S N t).1,(timesG S N t).2) by unfold blockG;rw[hN,ht];rfl)
 have HP:=HI.lt
 clear H h1 hs hN ht
 go_enter Tryz.func189,Tryz.ntmps189
 have L0:=hid (LS.start HI.out (Nat.le_refl _) HP)
 have J:=hid (grown_below (p:=p) grown_refl ((Below.refl w.heap.size w).alloc (Nat.le_refl _) (.cells #[] 24)) rfl)
 go_wp2_with fail
 refine(bl_ok 3 (by decide) HN.out L0.cur).mono ?_
 rintro e w1 ⟨rfl,I1,G1⟩
 rw[HT.out]at I1
 have L1:=hid (L0.next I1 G1)
 have O:=hid (grown_trans J.out G1)
 clear I1 G1
 go_wp2
 go_loopw [5,6] (fun v n wr=>RelList B p len cap a zs w S N t v n wr) (fun _ n _=>(intOf n).toNat)
 case atStart=>exact⟨0,w.heap.size,0,[],by omega,by simp,rfl,L1.out,O.out⟩
 case round=>
  obtain⟨I,g,c,vs,hI,rfl,rfl,hls,hgr⟩:=hrel
  have hvl:=hls.ln
  rw[times_len]at hvl
  subst hvl
  have HL:=hid hls
  have HG:=hid hgr
  clear hls hgr
  by_cases hlt:vs.length<N
  ·have hi:(vs.length:Int)<(N:Int):=by omega
   have K:0<(N:Int)-(vs.length:Int):=by omega
   go_wp2_with fail
   refine(H1.out _ _ HL.cur).mono ?_
   rintro e w2 ⟨u,rfl,T2,I2,G2⟩
   obtain⟨au,cu,rfl⟩:=T2.form
   have L2:=hid (HL.next I2 G2)
   have V:=hid T2
   have P:=hid (grown_trans HG.out G2)
   clear T2 I2 G2
   go_wp2_with (refine wpList_append_tree _ _ rfl _ _ rfl w.heap.size (.slice (some ⟨g,0,none⟩) vs.length c) vs rfl L2.own rfl rfl (by omega) L2.lw ?_;intro g3 c3 w3 F j G;have L3:=hid (L2.push V.out HL.g_lt.2 F j (G.imp (fun e=>by simpa [Value.ownBlock]using e) id));have y:=hid (L2.grown P.out (Nat.le_refl _) j))
   go_roundw
   case rel=>
    refine⟨vs.length+1,g3,c3,vs++[.slice au (S (timesG S vs.length t).2).1.length cu],by omega,by go_num,rfl, ?_⟩
    rw[times_snoc]
    exact⟨L3.out,y.out⟩
   case measure=>simp[intOf];omega
  ·obtain rfl:vs.length=N:=by omega
   have K:¬0<(vs.length:Int)-(vs.length:Int):=by omega
   go_wp2_with fail
   refine(good_partsN (n:=nodeO 33 0) (by rw[times_len]) HL.parts (times_all (fun s=>(HS.out s).good hk) _ _) (by rw[times_len];omega)).mono ?_
   rintro e w4 hmk
   have HM:=hid (TOut.make HL.cur HP HG.out (Below.refl _ _) hmk)
   clear hmk
   obtain⟨vz,rfl,_⟩:=HM.out
   go_wp2
   go_ret
   rw[HQ.out]
   exact HM.out
theorem block_small{k:Nat}{S:St→List Nd×St}(h:SmE k S):SmE (1+2*k) (blockG (exactG zs) S):=by
 intro s
 have hb:=exact_lt zs 3 s (by decide)
 obtain⟨l1,l2⟩:=times_small h ((exactG zs).bl 3 s).1 ((exactG zs).bl 3 s).2
 exact sm_list (m:=2) _ ⟨l1,by omega⟩ (by decide)
structure Stm(B p len cap:Nat)(a:Option Addr)(zs:List Int)(D:Int)(A1 A2 Bk:St→List Nd×St):Prop where
 d0:1≤D
 d1:D≤100
 a1:ExprC B p len cap a zs 83 1 A1
 a2:ExprC B p len cap a zs 83 2 A2
 b:ExprC B p len cap a zs 189 (D-1) Bk
 s1:SmE 21 A1
 s2:SmE 21 A2
 sb:SmE 5000 Bk
variable {D:Int} {A1 A2 Bk:St→List Nd×St}
theorem Stm.g1(h:Stm B p len cap a zs D A1 A2 Bk)(s:St):Good (A1 s).1:=(h.s1 s).good (by decide)
theorem Stm.gb(h:Stm B p len cap a zs D A1 A2 Bk)(s:St):Good (Bk s).1:=(h.sb s).good (by decide)
theorem Stm.m1(h:Stm B p len cap a zs D A1 A2 Bk)(s:St):Good (maybeG (exactG zs) A1 s).1:=(maybe_small zs h.s1 s).good (by decide)
theorem Stm.m2(h:Stm B p len cap a zs D A1 A2 Bk)(s:St):Good (maybeG (exactG zs) A2 s).1:=(maybe_small zs h.s2 s).good (by decide)
def compA{σ T:Type}(g:Gen σ T)(A1 A2 B:σ→T×σ)(b:Nat)(t:σ):T×σ:=
 match b with
 |0=>let e:=A1 t;let k:=B e.2;(g.nd (nodeO 28 0) [e.1,k.1],k.2)
 |1=>let e:=A1 t;let k:=B e.2;let j:=B k.2;(g.nd (nodeO 28 0) [e.1,k.1,j.1],j.2)
 |2=>let e:=A1 t;let k:=B e.2;(g.nd (nodeO 29 0) [e.1,k.1],k.2)
 |3=>let k:=B t;let e:=A1 k.2;(g.nd (nodeO 30 0) [k.1,e.1],e.2)
 |4=>let x:=maybeG g A2 t;let y:=maybeG g A1 x.2;let z:=maybeG g A1 y.2;let k:=B z.2;(g.nd (nodeO 31 0) [x.1,y.1,z.1,k.1],k.2)
 |_=>if(g.bl 2 t).1=0 then B (g.bl 2 t).2 else(let x:=pkG g l2WordL (g.bl 2 t).2;let y:=pkG g l2WordL x.2;let k:=B y.2;(g.nd ⟨32,0,x.1,y.1,[]⟩ [k.1],k.2))
theorem comp_arm{σ T:Type}(g:Gen σ T)(A1 A2 B:σ→T×σ)(s:σ):compG g A1 A2 B s=compA g A1 A2 B (g.bl 6 s).1 (g.bl 6 s).2:=rfl
set_option maxHeartbeats 1600000 in
theorem comp0{w:World}{s u t:St}(hA:Stm B p len cap a zs D A1 A2 Bk)(H:In B w p a len cap zs s)(hO:((exactG zs).bl 3 s).1=0)(hu:((exactG zs).bl 3 s).2=u)(hK:((exactG zs).bl 6 u).1=0)(ht:((exactG zs).bl 6 u).2=t):
  Calls Tryz.prog 125 #[.pointer (some ⟨p,0,none⟩),.int .i64 D] w (TOut B p a len cap zs (compA (exactG zs) A1 A2 Bk 0 t).1 (compA (exactG zs) A1 A2 Bk 0 t).2 w):=by
 have HA:=hid hA
 have HI:=hid H
 have HO:=hid hO
 have HU:=hid hu
 have HK:=hid hK
 have HT:=hid ht
 have d0:=hA.d0
 have d1:=hA.d1
 clear hA H hO hu hK ht
 go_enter Tryz.func125,Tryz.ntmps125
 go_wp2_with fail
 refine(once_yes 3 (by decide) HO.out HI.out).mono ?_
 rintro e wz ⟨rfl,Iz,Gz⟩
 rw[HU.out]at Iz
 go_wp2_with fail
 refine(bl_ok 6 (by decide) HK.out Iz).mono ?_
 rintro e w0 ⟨rfl,I0,Gy⟩
 rw[HT.out]at I0
 have G0:=hid (grown_trans Gz Gy)
 have I:=G0.size
 clear Iz Gz Gy
 go_wp2_with fail
 refine(HA.a1 _ _ I0).mono ?_
 rintro e w1 ⟨v1,rfl,T1,I1,G1⟩
 obtain⟨a1,c1,rfl⟩:=T1.form
 have F:=hid (grown_trans (G0.out) G1)
 have J:=F.size
 clear G1
 have X1:=hid (TR.down T1 (S':=w.heap.size) (by omega) HI.lt)
 clear T1
 go_wp2_with fail
 refine(HA.b _ _ I1).mono ?_
 rintro e w2 ⟨v2,rfl,T2,I2,G2⟩
 obtain⟨a2,c2,rfl⟩:=T2.form
 have y:=hid (X1.grown G2)
 clear X1
 have X1:=y
 clear y
 have j:=hid (grown_trans (F.out) G2)
 have G:=j.size
 clear G2
 have X2:=hid (TR.down T2 (S':=w.heap.size) (by omega) HI.lt)
 clear T2
 go_wp2_with fail
 refine(good_parts (n:=nodeO 28 0) (parts_of [.slice a1 _ c1,.slice a2 _ c2] [(A1 t).1,(Bk (A1 t).2).1] rfl (fun i h _=>by
   have e0:i=0∨i=1:=(by simp at h;omega)
   rcases e0 with rfl|rfl
   ·exact X1.out
   ·exact X2.out
   )) (fun q hq=>by
   simp only[List.mem_cons,List.not_mem_nil,or_false]at hq
   rcases hq with rfl|rfl
   ·exact HA.g1 _
   ·exact HA.gb _
   ) (by simp)).mono ?_
 rintro e w3 hmk
 have HM:=hid (TOut.make I2 HI.lt (j.out) ((Below.refl _ _).alloc (Nat.le_refl _) _) hmk)
 clear hmk
 obtain⟨vz,rfl,_⟩:=HM.out
 go_wp2
 go_ret
 exact HM.out
set_option maxHeartbeats 1600000 in
theorem comp1{w:World}{s u t:St}(hA:Stm B p len cap a zs D A1 A2 Bk)(H:In B w p a len cap zs s)(hO:((exactG zs).bl 3 s).1=0)(hu:((exactG zs).bl 3 s).2=u)(hK:((exactG zs).bl 6 u).1=1)(ht:((exactG zs).bl 6 u).2=t):
  Calls Tryz.prog 125 #[.pointer (some ⟨p,0,none⟩),.int .i64 D] w (TOut B p a len cap zs (compA (exactG zs) A1 A2 Bk 1 t).1 (compA (exactG zs) A1 A2 Bk 1 t).2 w):=by
 have HA:=hid hA
 have HI:=hid H
 have HO:=hid hO
 have HU:=hid hu
 have HK:=hid hK
 have HT:=hid ht
 have d0:=hA.d0
 have d1:=hA.d1
 clear hA H hO hu hK ht
 go_enter Tryz.func125,Tryz.ntmps125
 go_wp2_with fail
 refine(once_yes 3 (by decide) HO.out HI.out).mono ?_
 rintro e wz ⟨rfl,Iz,Gz⟩
 rw[HU.out]at Iz
 go_wp2_with fail
 refine(bl_ok 6 (by decide) HK.out Iz).mono ?_
 rintro e w0 ⟨rfl,I0,Gy⟩
 rw[HT.out]at I0
 have G0:=hid (grown_trans Gz Gy)
 have K:=G0.size
 clear Iz Gz Gy
 go_wp2_with fail
 refine(HA.a1 _ _ I0).mono ?_
 rintro e w1 ⟨v1,rfl,T1,I1,G1⟩
 obtain⟨a1,c1,rfl⟩:=T1.form
 have I:=hid (grown_trans (G0.out) G1)
 have P:=I.size
 clear G1
 have X1:=hid (TR.down T1 (S':=w.heap.size) (by omega) HI.lt)
 clear T1
 go_wp2_with fail
 refine(HA.b _ _ I1).mono ?_
 rintro e w2 ⟨v2,rfl,T2,I2,G2⟩
 obtain⟨a2,c2,rfl⟩:=T2.form
 have j:=hid (X1.grown G2)
 clear X1
 have X1:=j
 clear j
 have y:=hid (grown_trans (I.out) G2)
 have J:=y.size
 clear G2
 have X2:=hid (TR.down T2 (S':=w.heap.size) (by omega) HI.lt)
 clear T2
 go_wp2_with fail
 refine(HA.b _ _ I2).mono ?_
 rintro e w3 ⟨v3,rfl,T3,I3,G3⟩
 obtain⟨a3,c3,rfl⟩:=T3.form
 have j:=hid (X1.grown G3)
 clear X1
 have X1:=j
 clear j
 have F:=hid (X2.grown G3)
 clear X2
 have X2:=F
 clear F
 have G:=hid (grown_trans (y.out) G3)
 have O:=G.size
 clear G3
 have X3:=hid (TR.down T3 (S':=w.heap.size) (by omega) HI.lt)
 clear T3
 go_wp2_with fail
 refine(good_parts (n:=nodeO 28 0) (parts_of [.slice a1 _ c1,.slice a2 _ c2,.slice a3 _ c3] [(A1 t).1,(Bk (A1 t).2).1,(Bk (Bk (A1 t).2).2).1] rfl (fun i h _=>by
   have e0:i=0∨i=1∨i=2:=(by simp at h;omega)
   rcases e0 with rfl|rfl|rfl
   ·exact X1.out
   ·exact X2.out
   ·exact X3.out
   )) (fun q hq=>by
   simp only[List.mem_cons,List.not_mem_nil,or_false]at hq
   rcases hq with rfl|rfl|rfl
   ·exact HA.g1 _
   ·exact HA.gb _
   ·exact HA.gb _
   ) (by simp)).mono ?_
 rintro e w4 hmk
 have HM:=hid (TOut.make I3 HI.lt (G.out) ((Below.refl _ _).alloc (Nat.le_refl _) _) hmk)
 clear hmk
 obtain⟨vz,rfl,_⟩:=HM.out
 go_wp2
 go_ret
 exact HM.out
set_option maxHeartbeats 1600000 in
theorem comp2{w:World}{s u t:St}(hA:Stm B p len cap a zs D A1 A2 Bk)(H:In B w p a len cap zs s)(hO:((exactG zs).bl 3 s).1=0)(hu:((exactG zs).bl 3 s).2=u)(hK:((exactG zs).bl 6 u).1=2)(ht:((exactG zs).bl 6 u).2=t):
  Calls Tryz.prog 125 #[.pointer (some ⟨p,0,none⟩),.int .i64 D] w (TOut B p a len cap zs (compA (exactG zs) A1 A2 Bk 2 t).1 (compA (exactG zs) A1 A2 Bk 2 t).2 w):=by
 have HA:=hid hA
 have HI:=hid H
 have HO:=hid hO
 have HU:=hid hu
 have HK:=hid hK
 have HT:=hid ht
 have d0:=hA.d0
 have d1:=hA.d1
 clear hA H hO hu hK ht
 go_enter Tryz.func125,Tryz.ntmps125
 go_wp2_with fail
 refine(once_yes 3 (by decide) HO.out HI.out).mono ?_
 rintro e wz ⟨rfl,Iz,Gz⟩
 rw[HU.out]at Iz
 go_wp2_with fail
 refine(bl_ok 6 (by decide) HK.out Iz).mono ?_
 rintro e w0 ⟨rfl,I0,Gy⟩
 rw[HT.out]at I0
 have G0:=hid (grown_trans Gz Gy)
 have I:=G0.size
 clear Iz Gz Gy
 go_wp2_with fail
 refine(HA.a1 _ _ I0).mono ?_
 rintro e w1 ⟨v1,rfl,T1,I1,G1⟩
 obtain⟨a1,c1,rfl⟩:=T1.form
 have F:=hid (grown_trans (G0.out) G1)
 have J:=F.size
 clear G1
 have X1:=hid (TR.down T1 (S':=w.heap.size) (by omega) HI.lt)
 clear T1
 go_wp2_with fail
 refine(HA.b _ _ I1).mono ?_
 rintro e w2 ⟨v2,rfl,T2,I2,G2⟩
 obtain⟨a2,c2,rfl⟩:=T2.form
 have y:=hid (X1.grown G2)
 clear X1
 have X1:=y
 clear y
 have j:=hid (grown_trans (F.out) G2)
 have G:=j.size
 clear G2
 have X2:=hid (TR.down T2 (S':=w.heap.size) (by omega) HI.lt)
 clear T2
 go_wp2_with fail
 refine(good_parts (n:=nodeO 29 0) (parts_of [.slice a1 _ c1,.slice a2 _ c2] [(A1 t).1,(Bk (A1 t).2).1] rfl (fun i h _=>by
   have e0:i=0∨i=1:=(by simp at h;omega)
   rcases e0 with rfl|rfl
   ·exact X1.out
   ·exact X2.out
   )) (fun q hq=>by
   simp only[List.mem_cons,List.not_mem_nil,or_false]at hq
   rcases hq with rfl|rfl
   ·exact HA.g1 _
   ·exact HA.gb _
   ) (by simp)).mono ?_
 rintro e w3 hmk
 have HM:=hid (TOut.make I2 HI.lt (j.out) ((Below.refl _ _).alloc (Nat.le_refl _) _) hmk)
 clear hmk
 obtain⟨vz,rfl,_⟩:=HM.out
 go_wp2
 go_ret
 exact HM.out
set_option maxHeartbeats 1600000 in
theorem comp3{w:World}{s u t:St}(hA:Stm B p len cap a zs D A1 A2 Bk)(H:In B w p a len cap zs s)(hO:((exactG zs).bl 3 s).1=0)(hu:((exactG zs).bl 3 s).2=u)(hK:((exactG zs).bl 6 u).1=3)(ht:((exactG zs).bl 6 u).2=t):
  Calls Tryz.prog 125 #[.pointer (some ⟨p,0,none⟩),.int .i64 D] w (TOut B p a len cap zs (compA (exactG zs) A1 A2 Bk 3 t).1 (compA (exactG zs) A1 A2 Bk 3 t).2 w):=by
 have HA:=hid hA
 have HI:=hid H
 have HO:=hid hO
 have HU:=hid hu
 have HK:=hid hK
 have HT:=hid ht
 have d0:=hA.d0
 have d1:=hA.d1
 clear hA H hO hu hK ht
 go_enter Tryz.func125,Tryz.ntmps125
 go_wp2_with fail
 refine(once_yes 3 (by decide) HO.out HI.out).mono ?_
 rintro e wz ⟨rfl,Iz,Gz⟩
 rw[HU.out]at Iz
 go_wp2_with fail
 refine(bl_ok 6 (by decide) HK.out Iz).mono ?_
 rintro e w0 ⟨rfl,I0,Gy⟩
 rw[HT.out]at I0
 have G0:=hid (grown_trans Gz Gy)
 have I:=G0.size
 clear Iz Gz Gy
 go_wp2_with fail
 refine(HA.b _ _ I0).mono ?_
 rintro e w1 ⟨v1,rfl,T1,I1,G1⟩
 obtain⟨a1,c1,rfl⟩:=T1.form
 have F:=hid (grown_trans (G0.out) G1)
 have J:=F.size
 clear G1
 have X1:=hid (TR.down T1 (S':=w.heap.size) (by omega) HI.lt)
 clear T1
 go_wp2_with fail
 refine(HA.a1 _ _ I1).mono ?_
 rintro e w2 ⟨v2,rfl,T2,I2,G2⟩
 obtain⟨a2,c2,rfl⟩:=T2.form
 have y:=hid (X1.grown G2)
 clear X1
 have X1:=y
 clear y
 have j:=hid (grown_trans (F.out) G2)
 have G:=j.size
 clear G2
 have X2:=hid (TR.down T2 (S':=w.heap.size) (by omega) HI.lt)
 clear T2
 go_wp2_with fail
 refine(good_parts (n:=nodeO 30 0) (parts_of [.slice a1 _ c1,.slice a2 _ c2] [(Bk t).1,(A1 (Bk t).2).1] rfl (fun i h _=>by
   have e0:i=0∨i=1:=(by simp at h;omega)
   rcases e0 with rfl|rfl
   ·exact X1.out
   ·exact X2.out
   )) (fun q hq=>by
   simp only[List.mem_cons,List.not_mem_nil,or_false]at hq
   rcases hq with rfl|rfl
   ·exact HA.gb _
   ·exact HA.g1 _
   ) (by simp)).mono ?_
 rintro e w3 hmk
 have HM:=hid (TOut.make I2 HI.lt (j.out) ((Below.refl _ _).alloc (Nat.le_refl _) _) hmk)
 clear hmk
 obtain⟨vz,rfl,_⟩:=HM.out
 go_wp2
 go_ret
 exact HM.out
set_option maxHeartbeats 1600000 in
theorem comp4{w:World}{s u t:St}(hA:Stm B p len cap a zs D A1 A2 Bk)(H:In B w p a len cap zs s)(hO:((exactG zs).bl 3 s).1=0)(hu:((exactG zs).bl 3 s).2=u)(hK:((exactG zs).bl 6 u).1=4)(ht:((exactG zs).bl 6 u).2=t):
  Calls Tryz.prog 125 #[.pointer (some ⟨p,0,none⟩),.int .i64 D] w (TOut B p a len cap zs (compA (exactG zs) A1 A2 Bk 4 t).1 (compA (exactG zs) A1 A2 Bk 4 t).2 w):=by
 have HA:=hid hA
 have HI:=hid H
 have HO:=hid hO
 have HU:=hid hu
 have HK:=hid hK
 have HT:=hid ht
 have d0:=hA.d0
 have d1:=hA.d1
 clear hA H hO hu hK ht
 go_enter Tryz.func125,Tryz.ntmps125
 go_wp2_with fail
 refine(once_yes 3 (by decide) HO.out HI.out).mono ?_
 rintro e wz ⟨rfl,Iz,Gz⟩
 rw[HU.out]at Iz
 go_wp2_with fail
 refine(bl_ok 6 (by decide) HK.out Iz).mono ?_
 rintro e w0 ⟨rfl,I0,Gy⟩
 rw[HT.out]at I0
 have G0:=hid (grown_trans Gz Gy)
 have P:=G0.size
 clear Iz Gz Gy
 go_wp2_with fail
 refine(maybe_ok (by decide) HA.a2 _ _ I0).mono ?_
 rintro e w1 ⟨v1,rfl,T1,I1,G1⟩
 obtain⟨a1,c1,rfl⟩:=T1.form
 have K:=hid (grown_trans (G0.out) G1)
 have V:=K.size
 clear G1
 have X1:=hid (TR.down T1 (S':=w.heap.size) (by omega) HI.lt)
 clear T1
 go_wp2_with fail
 refine(maybe_ok (by decide) HA.a1 _ _ I1).mono ?_
 rintro e w2 ⟨v2,rfl,T2,I2,G2⟩
 obtain⟨a2,c2,rfl⟩:=T2.form
 have j:=hid (X1.grown G2)
 clear X1
 have X1:=j
 clear j
 have F:=hid (grown_trans (K.out) G2)
 have O:=F.size
 clear G2
 have X2:=hid (TR.down T2 (S':=w.heap.size) (by omega) HI.lt)
 clear T2
 go_wp2_with fail
 refine(maybe_ok (by decide) HA.a1 _ _ I2).mono ?_
 rintro e w3 ⟨v3,rfl,T3,I3,G3⟩
 obtain⟨a3,c3,rfl⟩:=T3.form
 have j:=hid (X1.grown G3)
 clear X1
 have X1:=j
 clear j
 have y:=hid (X2.grown G3)
 clear X2
 have X2:=y
 clear y
 have J:=hid (grown_trans (F.out) G3)
 have S:=J.size
 clear G3
 have X3:=hid (TR.down T3 (S':=w.heap.size) (by omega) HI.lt)
 clear T3
 go_wp2_with fail
 refine(HA.b _ _ I3).mono ?_
 rintro e w4 ⟨v4,rfl,T4,I4,G4⟩
 obtain⟨a4,c4,rfl⟩:=T4.form
 have j:=hid (X1.grown G4)
 clear X1
 have X1:=j
 clear j
 have y:=hid (X2.grown G4)
 clear X2
 have X2:=y
 clear y
 have G:=hid (X3.grown G4)
 clear X3
 have X3:=G
 clear G
 have I:=hid (grown_trans (J.out) G4)
 have X:=I.size
 clear G4
 have X4:=hid (TR.down T4 (S':=w.heap.size) (by omega) HI.lt)
 clear T4
 go_wp2_with fail
 refine(good_parts (n:=nodeO 31 0) (parts_of [.slice a1 _ c1,.slice a2 _ c2,.slice a3 _ c3,.slice a4 _ c4] [(maybeG (exactG zs) A2 t).1,(maybeG (exactG zs) A1 (maybeG (exactG zs) A2 t).2).1,(maybeG (exactG zs) A1 (maybeG (exactG zs) A1 (maybeG (exactG zs) A2 t).2).2).1,(Bk (maybeG (exactG zs) A1 (maybeG (exactG zs) A1 (maybeG (exactG zs) A2 t).2).2).2).1] rfl (fun i h _=>by
   have e0:i=0∨i=1∨i=2∨i=3:=(by simp at h;omega)
   rcases e0 with rfl|rfl|rfl|rfl
   ·exact X1.out
   ·exact X2.out
   ·exact X3.out
   ·exact X4.out
   )) (fun q hq=>by
   simp only[List.mem_cons,List.not_mem_nil,or_false]at hq
   rcases hq with rfl|rfl|rfl|rfl
   ·exact HA.m2 _
   ·exact HA.m1 _
   ·exact HA.m1 _
   ·exact HA.gb _
   ) (by simp)).mono ?_
 rintro e w5 hmk
 have HM:=hid (TOut.make I4 HI.lt (I.out) ((Below.refl _ _).alloc (Nat.le_refl _) _) hmk)
 clear hmk
 obtain⟨vz,rfl,_⟩:=HM.out
 go_wp2
 go_ret
 exact HM.out
set_option maxHeartbeats 1600000 in
theorem comp5{w:World}{s u t:St}(hA:Stm B p len cap a zs D A1 A2 Bk)(H:In B w p a len cap zs s)(hO:((exactG zs).bl 3 s).1=0)(hu:((exactG zs).bl 3 s).2=u)(hK:((exactG zs).bl 6 u).1=5)(ht:((exactG zs).bl 6 u).2=t):
  Calls Tryz.prog 125 #[.pointer (some ⟨p,0,none⟩),.int .i64 D] w (TOut B p a len cap zs (compA (exactG zs) A1 A2 Bk 5 t).1 (compA (exactG zs) A1 A2 Bk 5 t).2 w):=by
 have HA:=hid hA
 have HI:=hid H
 have HO:=hid hO
 have HU:=hid hu
 have HK:=hid hK
 have HT:=hid ht
 have d0:=hA.d0
 have d1:=hA.d1
 clear hA H hO hu hK ht
 by_cases hc:((exactG zs).bl 2 t).1=0
 ·have HQ:=hid (show compA (exactG zs) A1 A2 Bk 5 t=Bk ((exactG zs).bl 2 t).2 from if_pos hc)
  go_enter Tryz.func125,Tryz.ntmps125
  go_wp2_with fail
  refine(once_yes 3 (by decide) HO.out HI.out).mono ?_
  rintro e wz ⟨rfl,Iz,Gz⟩
  rw[HU.out]at Iz
  go_wp2_with fail
  refine(bl_ok 6 (by decide) HK.out Iz).mono ?_
  rintro e w0 ⟨rfl,I0,Gy⟩
  rw[HT.out]at I0
  have G0:=hid (grown_trans Gz Gy)
  have I:=G0.size
  clear Iz Gz Gy
  go_wp2_with fail
  refine(once_yes 2 (by decide) hc I0).mono ?_
  rintro e w1 ⟨rfl,I1,G1⟩
  have j:=hid (grown_trans (G0.out) G1)
  have J:=j.size
  clear G1
  go_wp2_with fail
  refine(HA.b _ _ I1).mono ?_
  rintro e w2 ho
  have HM:=hid (TOut.back (j.out) HI.lt ho)
  clear ho
  obtain⟨vz,rfl,_⟩:=HM.out
  go_wp2
  go_ret
  rw[HQ.out]
  exact HM.out
 ·have HQ:=hid (show compA (exactG zs) A1 A2 Bk 5 t=(makeT ⟨32,0,(pkG (exactG zs) l2WordL ((exactG zs).bl 2 t).2).1,(pkG (exactG zs) l2WordL (pkG (exactG zs) l2WordL ((exactG zs).bl 2 t).2).2).1,[]⟩ [(Bk (pkG (exactG zs) l2WordL (pkG (exactG zs) l2WordL ((exactG zs).bl 2 t).2).2).2).1],(Bk (pkG (exactG zs) l2WordL (pkG (exactG zs) l2WordL ((exactG zs).bl 2 t).2).2).2).2)from if_neg hc)
  go_enter Tryz.func125,Tryz.ntmps125
  go_wp2_with fail
  refine(once_yes 3 (by decide) HO.out HI.out).mono ?_
  rintro e wz ⟨rfl,Iz,Gz⟩
  rw[HU.out]at Iz
  go_wp2_with fail
  refine(bl_ok 6 (by decide) HK.out Iz).mono ?_
  rintro e w0 ⟨rfl,I0,Gy⟩
  rw[HT.out]at I0
  have G0:=hid (grown_trans Gz Gy)
  have I:=G0.size
  clear Iz Gz Gy
  go_wp2_with fail
  refine(once_no 2 (by decide) hc I0).mono ?_
  rintro e w1 ⟨rfl,I1,G1⟩
  have j:=hid (grown_trans (G0.out) G1)
  have J:=j.size
  clear G1
  go_wp2_with fail
  refine(word_ok I1).mono ?_
  rintro e w2 ⟨⟨rfl,I2,G2⟩,Z2⟩
  have y:=hid (grown_trans (j.out) G2)
  have K:=y.size
  clear G2
  go_wp2_with fail
  refine(word_ok I2).mono ?_
  rintro e w3 ⟨⟨rfl,I3,G3⟩,Z3⟩
  have G:=hid (grown_trans (y.out) G3)
  have O:=G.size
  clear G3
  go_wp2_with fail
  refine(HA.b _ _ I3).mono ?_
  rintro e w4 ⟨v4,rfl,T4,I4,G4⟩
  obtain⟨a4,c4,rfl⟩:=T4.form
  have F:=hid (grown_trans (G.out) G4)
  have P:=F.size
  clear G4
  have X4:=hid (TR.down T4 (S':=w.heap.size) (by omega) HI.lt)
  clear T4
  go_wp2_with fail
  refine(good_parts (n:=⟨32,0,(pkG (exactG zs) l2WordL ((exactG zs).bl 2 t).2).1,(pkG (exactG zs) l2WordL (pkG (exactG zs) l2WordL ((exactG zs).bl 2 t).2).2).1,[]⟩) (parts_of [.slice a4 _ c4] [(Bk (pkG (exactG zs) l2WordL (pkG (exactG zs) l2WordL ((exactG zs).bl 2 t).2).2).2).1] rfl (fun i h _=>by have e0:i=0:=(by simpa using h);subst e0;exact X4.out)) (fun q hq=>by
    simp only[List.mem_cons,List.not_mem_nil,or_false]at hq
    rcases hq with rfl
    ·exact HA.gb _
    ) (by simp)).mono ?_
  rintro e w5 hmk
  have HM:=hid (TOut.make I4 HI.lt (F.out) ((Below.refl _ _).alloc (Nat.le_refl _) _) hmk)
  clear hmk
  obtain⟨vz,rfl,_⟩:=HM.out
  go_wp2
  go_ret
  rw[HQ.out]
  exact HM.out
theorem comp_ok{w:World}{s u:St}(hA:Stm B p len cap a zs D A1 A2 Bk)(H:In B w p a len cap zs s)(hO:((exactG zs).bl 3 s).1=0)(hu:((exactG zs).bl 3 s).2=u):
  Calls Tryz.prog 125 #[.pointer (some ⟨p,0,none⟩),.int .i64 D] w (TOut B p a len cap zs (compG (exactG zs) A1 A2 Bk u).1 (compG (exactG zs) A1 A2 Bk u).2 w):=by
 obtain⟨K,hK⟩:∃K,((exactG zs).bl 6 u).1=K:=⟨_,rfl⟩
 obtain⟨t,ht⟩:∃t,((exactG zs).bl 6 u).2=t:=⟨_,rfl⟩
 have hb:=exact_lt zs 6 u (by decide)
 rw[comp_arm,hK,ht]
 rw[hK]at hb
 rcases(show K=0∨K=1∨K=2∨K=3∨K=4∨K=5 by omega)with rfl|rfl|rfl|rfl|rfl|rfl
 ·exact comp0 hA H hO hu hK ht
 ·exact comp1 hA H hO hu hK ht
 ·exact comp2 hA H hO hu hK ht
 ·exact comp3 hA H hO hu hK ht
 ·exact comp4 hA H hO hu hK ht
 ·exact comp5 hA H hO hu hK ht
theorem comp_small(h1:SmE 21 A1)(h2:SmE 21 A2){k:Nat}(hb:SmE k Bk):SmE (100+2*k) (compG (exactG zs) A1 A2 Bk):=by
 intro s
 rw[comp_arm]
 generalize ((exactG zs).bl 6 s).1=b
 generalize ((exactG zs).bl 6 s).2=t
 have two:∀{x y:List Nd} (n:Nd),Small 21 x→Small k y→Small (100+2*k) (makeT n [x,y]):=fun{x y} n hx hy=>by
  refine⟨by rw[makeT_len];omega, ?_,(small_make (k:=21+k) (m:=2) n [x,y] (fun q hq=> ?_) (by simp) (by decide)).2.2⟩
  ·rw[makeT_len];have:=hx.2.1;have:=hy.2.1;simp only[sumL];omega
  ·simp only[List.mem_cons,List.not_mem_nil,or_false]at hq
   rcases hq with rfl|rfl
   ·exact hx.mono (by omega)
   ·exact hy.mono (by omega)
 rcases b with _|_|_|_|_|b
 ·exact two _ (h1 _) (hb _)
 ·refine⟨?_, ?_,(small_make (k:=21+k) (m:=3) _ _ (fun q hq=> ?_) (by simp) (by decide)).2.2⟩
  ·show 0<(makeT _ _).length
   rw[makeT_len];omega
  ·show(makeT _ _).length≤_
   rw[makeT_len]
   have x1:=(h1 t).2.1
   have x2:=(hb (A1 t).2).2.1
   have x3:=(hb (Bk (A1 t).2).2).2.1
   simp only[sumL]
   omega
  ·simp only[List.mem_cons,List.not_mem_nil,or_false]at hq
   rcases hq with rfl|rfl|rfl
   ·exact(h1 _).mono (by omega)
   ·exact(hb _).mono (by omega)
   ·exact(hb _).mono (by omega)
 ·exact two _ (h1 _) (hb _)
 ·have two':∀{x y:List Nd} (n:Nd),Small k x→Small 21 y→Small (100+2*k) (makeT n [x,y]):=fun{x y} n hx hy=>by
   refine⟨by rw[makeT_len];omega, ?_,(small_make (k:=21+k) (m:=2) n [x,y] (fun q hq=> ?_) (by simp) (by decide)).2.2⟩
   ·rw[makeT_len];have:=hx.2.1;have:=hy.2.1;simp only[sumL];omega
   ·simp only[List.mem_cons,List.not_mem_nil,or_false]at hq
    rcases hq with rfl|rfl
    ·exact hx.mono (by omega)
    ·exact hy.mono (by omega)
  exact two' _ (hb _) (h1 _)
 ·have m1:=maybe_small zs h1
  have m2:=maybe_small zs h2
  refine⟨?_, ?_,(small_make (k:=22+k) (m:=4) _ _ (fun q hq=> ?_) (by simp) (by decide)).2.2⟩
  ·show 0<(makeT _ _).length
   rw[makeT_len];omega
  ·show(makeT _ _).length≤_
   rw[makeT_len]
   have x1:=(m2 t).2.1
   have x2:=(m1 (maybeG (exactG zs) A2 t).2).2.1
   have x3:=(m1 (maybeG (exactG zs) A1 (maybeG (exactG zs) A2 t).2).2).2.1
   have x4:=(hb (maybeG (exactG zs) A1 (maybeG (exactG zs) A1 (maybeG (exactG zs) A2 t).2).2).2).2.1
   simp only[sumL]
   omega
  ·simp only[List.mem_cons,List.not_mem_nil,or_false]at hq
   rcases hq with rfl|rfl|rfl|rfl
   ·exact(m2 _).mono (by omega)
   ·exact(m1 _).mono (by omega)
   ·exact(m1 _).mono (by omega)
   ·exact(hb _).mono (by omega)
 ·show Small _ (if((exactG zs).bl 2 t).1=0 then _ else _:List Nd×St).1
  split
  ·exact(hb _).mono (by omega)
  ·exact(sm1 _ (hb _)).mono (by omega)
set_option maxHeartbeats 1600000 in
theorem stmt_simple{w:World}{s u:St}{E0 E1:St→List Nd×St}(hD:1≤D∧D≤2)(hS:ExprC B p len cap a zs 188 D (simpleG (exactG zs) E0 E1))(H:In B w p a len cap zs s)(hO:¬((exactG zs).bl 3 s).1=0)(hu:((exactG zs).bl 3 s).2=u):
  Calls Tryz.prog 125 #[.pointer (some ⟨p,0,none⟩),.int .i64 D] w (TOut B p a len cap zs (simpleG (exactG zs) E0 E1 u).1 (simpleG (exactG zs) E0 E1 u).2 w):=by
 have HI:=hid H
 have HS:=hid hS
 have HO:=hid hO
 have HU:=hid hu
 clear H hS hO hu
 rcases(show D=1∨D=2 by omega)with rfl|rfl
 all_goals
  clear hD
  go_enter Tryz.func125,Tryz.ntmps125
  go_wp2_with fail
  refine(once_no 3 (by decide) HO.out HI.out).mono ?_
  rintro e wz ⟨rfl,Iz,Gz⟩
  rw[HU.out]at Iz
  have HG:=hid Gz
  clear Gz
  go_wp2_with fail
  refine(HS.out _ _ Iz).mono ?_
  rintro e w3 ho
  have HM:=hid (TOut.back HG.out HI.lt ho)
  clear ho
  obtain⟨vz,rfl,_⟩:=HM.out
  go_wp2
  go_ret
  exact HM.out
set_option maxHeartbeats 1600000 in
theorem stmt_zero{E0 E1:St→List Nd×St}(hS:ExprC B p len cap a zs 188 0 (simpleG (exactG zs) E0 E1)):ExprC B p len cap a zs 125 0 (simpleG (exactG zs) E0 E1):=by
 intro w s H
 have HI:=hid H
 have HS:=hid hS
 clear H hS
 go_enter Tryz.func125,Tryz.ntmps125
 go_wp2_with fail
 refine(HS.out _ _ HI.out).mono ?_
 rintro e w3 ho
 have HM:=hid ho
 clear ho
 obtain⟨vz,rfl,_⟩:=HM.out
 go_wp2
 go_ret
 exact HM.out
def kSt:Nat→Nat
 |0=>85
 |d+1=>185+2*(1+2*kSt d)
theorem stmt_all(B p len cap:Nat)(a:Option Addr)(zs:List Int):∀d:Nat,d≤2→ExprC B p len cap a zs 125 (d:Int) (stmtG (exactG zs) d)∧SmE (kSt d) (stmtG (exactG zs) d):=by
 have e0:=expr_ok 0 (by decide) B p len cap a zs
 have e1:=expr_ok 1 (by decide) B p len cap a zs
 have e2:=expr_ok 2 (by decide) B p len cap a zs
 have z0:SmE 21 (exprG (exactG zs) 0):=((exprs_small zs 0).1).mono (by decide)
 have z1:SmE 21 (exprG (exactG zs) 1):=((exprs_small zs 1).1).mono (by decide)
 have z2:SmE 21 (exprG (exactG zs) 2):=((exprs_small zs 2).1).mono (by decide)
 intro d
 induction d with
 |zero=>
  intro _
  refine⟨stmt_zero (simple_ok (k:=21) ⟨by decide,by decide,e0,fun w s H=>expr_leaf _ (by decide) H,z0,z0,by decide⟩),(simple_small zs z0 z0).mono (by decide)⟩
 |succ d ih=>
  intro hd
  obtain⟨i1,i2⟩:=ih (by omega)
  have hkd:kSt d≤530:=by
   rcases(show d=0∨d=1 by omega)with rfl|rfl<;>decide
  have hblk:=block_ok (D:=(d:Int)) (by omega) i1 i2 (by omega)
  have hbs:=block_small (zs:=zs) i2
  have hA:Stm B p len cap a zs (((d+1:Nat)):Int) (exprG (exactG zs) 1) (exprG (exactG zs) 2) (blockG (exactG zs) (stmtG (exactG zs) d)):=⟨by omega,by omega,e1,e2,by rw[show((d+1:Nat):Int)-1=(d:Int) by omega];exact hblk,z1,z2,hbs.mono (by omega)⟩
  have hsim:ExprC B p len cap a zs 188 ((d+1:Nat):Int) (simpleG (exactG zs) (exprG (exactG zs) (min (d+1) 2)) (exprG (exactG zs) (min (d+1) 2-1)))∧SmE 85 (simpleG (exactG zs) (exprG (exactG zs) (min (d+1) 2)) (exprG (exactG zs) (min (d+1) 2-1))):=by
   rcases(show d=0∨d=1 by omega)with rfl|rfl
   ·exact⟨simple_ok (k:=21) ⟨by decide,by decide,e1,e0,z1,z0,by decide⟩,(simple_small zs z1 z0).mono (by decide)⟩
   ·exact⟨simple_ok (k:=21) ⟨by decide,by decide,e2,e1,z2,z1,by decide⟩,(simple_small zs z2 z1).mono (by decide)⟩
  constructor
  ·intro w s H
   by_cases hc:((exactG zs).bl 3 s).1=0
   ·rw[show stmtG (exactG zs) (d+1) s=compG (exactG zs) (exprG (exactG zs) 1) (exprG (exactG zs) 2) (blockG (exactG zs) (stmtG (exactG zs) d)) ((exactG zs).bl 3 s).2 from if_pos hc]
    exact comp_ok hA H hc rfl
   ·rw[show stmtG (exactG zs) (d+1) s=simpleG (exactG zs) (exprG (exactG zs) (min (d+1) 2)) (exprG (exactG zs) (min (d+1) 2-1)) ((exactG zs).bl 3 s).2 from if_neg hc]
    exact stmt_simple (by omega) hsim.1 H hc rfl
  ·intro s
   by_cases hc:((exactG zs).bl 3 s).1=0
   ·rw[show stmtG (exactG zs) (d+1) s=compG (exactG zs) (exprG (exactG zs) 1) (exprG (exactG zs) 2) (blockG (exactG zs) (stmtG (exactG zs) d)) ((exactG zs).bl 3 s).2 from if_pos hc]
    exact(comp_small z1 z2 hbs _).mono (by simp only[kSt];omega)
   ·rw[show stmtG (exactG zs) (d+1) s=simpleG (exactG zs) (exprG (exactG zs) (min (d+1) 2)) (exprG (exactG zs) (min (d+1) 2-1)) ((exactG zs).bl 3 s).2 from if_neg hc]
    exact(hsim.2 _).mono (by simp only[kSt];omega)
end
end Go.Proofs.YtnoagleifffkcaaGreatDoor.draw

namespace Go.Proofs.YtnoagleifffkcaaGreatDoor.draw
open Lib (hid)
open Go.ChangeShapes Go.WideShapes Go.ChangeAt Go.RowKit
open nd
set_option linter.unusedVariables false
set_option maxRecDepth 20000
section
variable {B p len cap:Nat} {a:Option Addr} {zs:List Int}
structure Itm(B p len cap:Nat)(a:Option Addr)(zs:List Int)(D:Int)(A1 Ed Bk:St→List Nd×St):Prop where
 d0:1≤D
 d1:D≤2
 a1:ExprC B p len cap a zs 83 1 A1
 e:ExprC B p len cap a zs 83 D Ed
 b:ExprC B p len cap a zs 189 D Bk
 s1:SmE 21 A1
 se:SmE 21 Ed
 sb:SmE 5000 Bk
variable {D:Int} {A1 Ed Bk:St→List Nd×St}
theorem Itm.g1(h:Itm B p len cap a zs D A1 Ed Bk)(s:St):Good (A1 s).1:=(h.s1 s).good (by decide)
theorem Itm.ge(h:Itm B p len cap a zs D A1 Ed Bk)(s:St):Good (Ed s).1:=(h.se s).good (by decide)
theorem Itm.gb(h:Itm B p len cap a zs D A1 Ed Bk)(s:St):Good (Bk s).1:=(h.sb s).good (by decide)
def funcG{σ T:Type}(g:Gen σ T)(B:σ→T×σ)(t:σ):T×σ:=
 let n:=g.bl 3 t;let l:=timesG (wordG g) n.1 n.2;let x:=pkG g l7NameL l.2;let k:=B x.2;(g.nd (nodeS 44 x.1) (l.1++[k.1]),k.2)
def itemA{σ T:Type}(g:Gen σ T)(A1 E B:σ→T×σ)(b:Nat)(t:σ):T×σ:=
 match b with
 |0=>let o:=g.bl 2 t;let k:=B o.2;(g.nd (nodeO (40+(o.1:Int)) 0) [k.1],k.2)
 |1=>let e:=E t;(g.nd (nodeO 42 1) [e.1],e.2)
 |2=>let k:=B t;(g.nd (nodeO 42 2) [k.1],k.2)
 |3=>let e:=A1 t;let f:=A1 e.2;(g.nd (nodeO 43 1) [e.1,f.1],f.2)
 |4=>let e:=A1 t;let f:=A1 e.2;let k:=B f.2;(g.nd (nodeO 43 3) [e.1,f.1,k.1],k.2)
 |5=>funcG g B t
 |6=>let x:=pkG g l7TopL t;(g.nd (nodeS 34 x.1) [],x.2)
 |_=>let e:=E t;let k:=B e.2;(g.nd (nodeO 42 3) [e.1,k.1],k.2)
theorem item_arm{σ T:Type}(g:Gen σ T)(s:σ):itemG g s=itemA g (exprG g 1) (exprG g (1+(g.bl 2 s).1)) (blockG g (stmtG g (1+(g.bl 2 s).1))) (g.bl 8 (g.bl 2 s).2).1 (g.bl 8 (g.bl 2 s).2).2:=rfl
set_option maxHeartbeats 1600000 in
theorem item0{w:World}{s u t:St}{K2:Nat}(hA:Itm B p len cap a zs (1+(K2:Int)) A1 Ed Bk)(H:In B w p a len cap zs s)(hO:((exactG zs).bl 2 s).1=K2)(hk2:K2<2)(hu:((exactG zs).bl 2 s).2=u)(hK:((exactG zs).bl 8 u).1=0)(ht:((exactG zs).bl 8 u).2=t):
  Calls Tryz.prog 191 #[.pointer (some ⟨p,0,none⟩)] w (TOut B p a len cap zs (itemA (exactG zs) A1 Ed Bk 0 t).1 (itemA (exactG zs) A1 Ed Bk 0 t).2 w):=by
 have HA:=hid hA
 have HI:=hid H
 have HO:=hid hO
 have HU:=hid hu
 have HK:=hid hK
 have HT:=hid ht
 clear hA H hO hu hK ht
 obtain⟨K3,j⟩:∃K3,((exactG zs).bl 2 t).1=K3:=⟨_,rfl⟩
 have I:=exact_lt zs 2 t (by decide)
 rw[j]at I
 have HQ:=hid (show itemA (exactG zs) A1 Ed Bk 0 t=(makeT (nodeO (40+(K3:Int)) 0) [(Bk ((exactG zs).bl 2 t).2).1],(Bk ((exactG zs).bl 2 t).2).2) by rw[←j];rfl)
 have G:=hid j
 clear j
 go_enter Tryz.func191,Tryz.ntmps191
 go_wp2_with fail
 refine(bl_ok 2 (by decide) HO.out HI.out).mono ?_
 rintro e wz ⟨rfl,Iz,Gz⟩
 rw[HU.out]at Iz
 go_wp2_with fail
 refine(bl_ok 8 (by decide) HK.out Iz).mono ?_
 rintro e w0 ⟨rfl,I0,Gy⟩
 rw[HT.out]at I0
 have G0:=hid (grown_trans Gz Gy)
 have K:=G0.size
 clear Iz Gz Gy
 go_wp2_with fail
 refine(bl_ok 2 (by decide) G.out I0).mono ?_
 rintro e w1 ⟨rfl,I1,G1⟩
 have F:=hid (grown_trans (G0.out) G1)
 have O:=F.size
 clear G1
 go_wp2_with fail
 refine(HA.b _ _ I1).mono ?_
 rintro e w2 ⟨v2,rfl,T2,I2,G2⟩
 obtain⟨a2,c2,rfl⟩:=T2.form
 have y:=hid (grown_trans (F.out) G2)
 have J:=y.size
 clear G2
 have X2:=hid (TR.down T2 (S':=w.heap.size) (by omega) HI.lt)
 clear T2
 go_wp2_with fail
 refine(good_parts (n:=nodeO (40+(K3:Int)) 0) (parts_of [.slice a2 _ c2] [(Bk ((exactG zs).bl 2 t).2).1] rfl (fun i h _=>by have e0:i=0:=(by simpa using h);subst e0;exact X2.out)) (fun q hq=>by
   simp only[List.mem_cons,List.not_mem_nil,or_false]at hq
   rcases hq with rfl
   ·exact HA.gb _
   ) (by simp)).mono ?_
 rintro e w3 hmk
 have HM:=hid (TOut.make I2 HI.lt (y.out) ((Below.refl _ _).alloc (Nat.le_refl _) _) hmk)
 clear hmk
 obtain⟨vz,rfl,_⟩:=HM.out
 go_wp2
 go_ret
 rw[HQ.out]
 exact HM.out
set_option maxHeartbeats 1600000 in
theorem item1{w:World}{s u t:St}{K2:Nat}(hA:Itm B p len cap a zs (1+(K2:Int)) A1 Ed Bk)(H:In B w p a len cap zs s)(hO:((exactG zs).bl 2 s).1=K2)(hk2:K2<2)(hu:((exactG zs).bl 2 s).2=u)(hK:((exactG zs).bl 8 u).1=1)(ht:((exactG zs).bl 8 u).2=t):
  Calls Tryz.prog 191 #[.pointer (some ⟨p,0,none⟩)] w (TOut B p a len cap zs (itemA (exactG zs) A1 Ed Bk 1 t).1 (itemA (exactG zs) A1 Ed Bk 1 t).2 w):=by
 have HA:=hid hA
 have HI:=hid H
 have HO:=hid hO
 have HU:=hid hu
 have HK:=hid hK
 have HT:=hid ht
 clear hA H hO hu hK ht
 go_enter Tryz.func191,Tryz.ntmps191
 go_wp2_with fail
 refine(bl_ok 2 (by decide) HO.out HI.out).mono ?_
 rintro e wz ⟨rfl,Iz,Gz⟩
 rw[HU.out]at Iz
 go_wp2_with fail
 refine(bl_ok 8 (by decide) HK.out Iz).mono ?_
 rintro e w0 ⟨rfl,I0,Gy⟩
 rw[HT.out]at I0
 have G0:=hid (grown_trans Gz Gy)
 have y:=G0.size
 clear Iz Gz Gy
 go_wp2_with fail
 refine(HA.e _ _ I0).mono ?_
 rintro e w1 ⟨v1,rfl,T1,I1,G1⟩
 obtain⟨a1,c1,rfl⟩:=T1.form
 have j:=hid (grown_trans (G0.out) G1)
 have F:=j.size
 clear G1
 have X1:=hid (TR.down T1 (S':=w.heap.size) (by omega) HI.lt)
 clear T1
 go_wp2_with fail
 refine(good_parts (n:=nodeO 42 1) (parts_of [.slice a1 _ c1] [(Ed t).1] rfl (fun i h _=>by have e0:i=0:=(by simpa using h);subst e0;exact X1.out)) (fun q hq=>by
   simp only[List.mem_cons,List.not_mem_nil,or_false]at hq
   rcases hq with rfl
   ·exact HA.ge _
   ) (by simp)).mono ?_
 rintro e w2 hmk
 have HM:=hid (TOut.make I1 HI.lt (j.out) ((Below.refl _ _).alloc (Nat.le_refl _) _) hmk)
 clear hmk
 obtain⟨vz,rfl,_⟩:=HM.out
 go_wp2
 go_ret
 exact HM.out
set_option maxHeartbeats 1600000 in
theorem item2{w:World}{s u t:St}{K2:Nat}(hA:Itm B p len cap a zs (1+(K2:Int)) A1 Ed Bk)(H:In B w p a len cap zs s)(hO:((exactG zs).bl 2 s).1=K2)(hk2:K2<2)(hu:((exactG zs).bl 2 s).2=u)(hK:((exactG zs).bl 8 u).1=2)(ht:((exactG zs).bl 8 u).2=t):
  Calls Tryz.prog 191 #[.pointer (some ⟨p,0,none⟩)] w (TOut B p a len cap zs (itemA (exactG zs) A1 Ed Bk 2 t).1 (itemA (exactG zs) A1 Ed Bk 2 t).2 w):=by
 have HA:=hid hA
 have HI:=hid H
 have HO:=hid hO
 have HU:=hid hu
 have HK:=hid hK
 have HT:=hid ht
 clear hA H hO hu hK ht
 go_enter Tryz.func191,Tryz.ntmps191
 go_wp2_with fail
 refine(bl_ok 2 (by decide) HO.out HI.out).mono ?_
 rintro e wz ⟨rfl,Iz,Gz⟩
 rw[HU.out]at Iz
 go_wp2_with fail
 refine(bl_ok 8 (by decide) HK.out Iz).mono ?_
 rintro e w0 ⟨rfl,I0,Gy⟩
 rw[HT.out]at I0
 have G0:=hid (grown_trans Gz Gy)
 have y:=G0.size
 clear Iz Gz Gy
 go_wp2_with fail
 refine(HA.b _ _ I0).mono ?_
 rintro e w1 ⟨v1,rfl,T1,I1,G1⟩
 obtain⟨a1,c1,rfl⟩:=T1.form
 have j:=hid (grown_trans (G0.out) G1)
 have F:=j.size
 clear G1
 have X1:=hid (TR.down T1 (S':=w.heap.size) (by omega) HI.lt)
 clear T1
 go_wp2_with fail
 refine(good_parts (n:=nodeO 42 2) (parts_of [.slice a1 _ c1] [(Bk t).1] rfl (fun i h _=>by have e0:i=0:=(by simpa using h);subst e0;exact X1.out)) (fun q hq=>by
   simp only[List.mem_cons,List.not_mem_nil,or_false]at hq
   rcases hq with rfl
   ·exact HA.gb _
   ) (by simp)).mono ?_
 rintro e w2 hmk
 have HM:=hid (TOut.make I1 HI.lt (j.out) ((Below.refl _ _).alloc (Nat.le_refl _) _) hmk)
 clear hmk
 obtain⟨vz,rfl,_⟩:=HM.out
 go_wp2
 go_ret
 exact HM.out
set_option maxHeartbeats 1600000 in
theorem item3{w:World}{s u t:St}{K2:Nat}(hA:Itm B p len cap a zs (1+(K2:Int)) A1 Ed Bk)(H:In B w p a len cap zs s)(hO:((exactG zs).bl 2 s).1=K2)(hk2:K2<2)(hu:((exactG zs).bl 2 s).2=u)(hK:((exactG zs).bl 8 u).1=3)(ht:((exactG zs).bl 8 u).2=t):
  Calls Tryz.prog 191 #[.pointer (some ⟨p,0,none⟩)] w (TOut B p a len cap zs (itemA (exactG zs) A1 Ed Bk 3 t).1 (itemA (exactG zs) A1 Ed Bk 3 t).2 w):=by
 have HA:=hid hA
 have HI:=hid H
 have HO:=hid hO
 have HU:=hid hu
 have HK:=hid hK
 have HT:=hid ht
 clear hA H hO hu hK ht
 go_enter Tryz.func191,Tryz.ntmps191
 go_wp2_with fail
 refine(bl_ok 2 (by decide) HO.out HI.out).mono ?_
 rintro e wz ⟨rfl,Iz,Gz⟩
 rw[HU.out]at Iz
 go_wp2_with fail
 refine(bl_ok 8 (by decide) HK.out Iz).mono ?_
 rintro e w0 ⟨rfl,I0,Gy⟩
 rw[HT.out]at I0
 have G0:=hid (grown_trans Gz Gy)
 have I:=G0.size
 clear Iz Gz Gy
 go_wp2_with fail
 refine(HA.a1 _ _ I0).mono ?_
 rintro e w1 ⟨v1,rfl,T1,I1,G1⟩
 obtain⟨a1,c1,rfl⟩:=T1.form
 have F:=hid (grown_trans (G0.out) G1)
 have J:=F.size
 clear G1
 have X1:=hid (TR.down T1 (S':=w.heap.size) (by omega) HI.lt)
 clear T1
 go_wp2_with fail
 refine(HA.a1 _ _ I1).mono ?_
 rintro e w2 ⟨v2,rfl,T2,I2,G2⟩
 obtain⟨a2,c2,rfl⟩:=T2.form
 have y:=hid (X1.grown G2)
 clear X1
 have X1:=y
 clear y
 have j:=hid (grown_trans (F.out) G2)
 have G:=j.size
 clear G2
 have X2:=hid (TR.down T2 (S':=w.heap.size) (by omega) HI.lt)
 clear T2
 go_wp2_with fail
 refine(good_parts (n:=nodeO 43 1) (parts_of [.slice a1 _ c1,.slice a2 _ c2] [(A1 t).1,(A1 (A1 t).2).1] rfl (fun i h _=>by
   have e0:i=0∨i=1:=(by simp at h;omega)
   rcases e0 with rfl|rfl
   ·exact X1.out
   ·exact X2.out
   )) (fun q hq=>by
   simp only[List.mem_cons,List.not_mem_nil,or_false]at hq
   rcases hq with rfl|rfl
   ·exact HA.g1 _
   ·exact HA.g1 _
   ) (by simp)).mono ?_
 rintro e w3 hmk
 have HM:=hid (TOut.make I2 HI.lt (j.out) ((Below.refl _ _).alloc (Nat.le_refl _) _) hmk)
 clear hmk
 obtain⟨vz,rfl,_⟩:=HM.out
 go_wp2
 go_ret
 exact HM.out
set_option maxHeartbeats 1600000 in
theorem item4{w:World}{s u t:St}{K2:Nat}(hA:Itm B p len cap a zs (1+(K2:Int)) A1 Ed Bk)(H:In B w p a len cap zs s)(hO:((exactG zs).bl 2 s).1=K2)(hk2:K2<2)(hu:((exactG zs).bl 2 s).2=u)(hK:((exactG zs).bl 8 u).1=4)(ht:((exactG zs).bl 8 u).2=t):
  Calls Tryz.prog 191 #[.pointer (some ⟨p,0,none⟩)] w (TOut B p a len cap zs (itemA (exactG zs) A1 Ed Bk 4 t).1 (itemA (exactG zs) A1 Ed Bk 4 t).2 w):=by
 have HA:=hid hA
 have HI:=hid H
 have HO:=hid hO
 have HU:=hid hu
 have HK:=hid hK
 have HT:=hid ht
 clear hA H hO hu hK ht
 go_enter Tryz.func191,Tryz.ntmps191
 go_wp2_with fail
 refine(bl_ok 2 (by decide) HO.out HI.out).mono ?_
 rintro e wz ⟨rfl,Iz,Gz⟩
 rw[HU.out]at Iz
 go_wp2_with fail
 refine(bl_ok 8 (by decide) HK.out Iz).mono ?_
 rintro e w0 ⟨rfl,I0,Gy⟩
 rw[HT.out]at I0
 have G0:=hid (grown_trans Gz Gy)
 have K:=G0.size
 clear Iz Gz Gy
 go_wp2_with fail
 refine(HA.a1 _ _ I0).mono ?_
 rintro e w1 ⟨v1,rfl,T1,I1,G1⟩
 obtain⟨a1,c1,rfl⟩:=T1.form
 have I:=hid (grown_trans (G0.out) G1)
 have P:=I.size
 clear G1
 have X1:=hid (TR.down T1 (S':=w.heap.size) (by omega) HI.lt)
 clear T1
 go_wp2_with fail
 refine(HA.a1 _ _ I1).mono ?_
 rintro e w2 ⟨v2,rfl,T2,I2,G2⟩
 obtain⟨a2,c2,rfl⟩:=T2.form
 have j:=hid (X1.grown G2)
 clear X1
 have X1:=j
 clear j
 have y:=hid (grown_trans (I.out) G2)
 have J:=y.size
 clear G2
 have X2:=hid (TR.down T2 (S':=w.heap.size) (by omega) HI.lt)
 clear T2
 go_wp2_with fail
 refine(HA.b _ _ I2).mono ?_
 rintro e w3 ⟨v3,rfl,T3,I3,G3⟩
 obtain⟨a3,c3,rfl⟩:=T3.form
 have j:=hid (X1.grown G3)
 clear X1
 have X1:=j
 clear j
 have F:=hid (X2.grown G3)
 clear X2
 have X2:=F
 clear F
 have G:=hid (grown_trans (y.out) G3)
 have O:=G.size
 clear G3
 have X3:=hid (TR.down T3 (S':=w.heap.size) (by omega) HI.lt)
 clear T3
 go_wp2_with fail
 refine(good_parts (n:=nodeO 43 3) (parts_of [.slice a1 _ c1,.slice a2 _ c2,.slice a3 _ c3] [(A1 t).1,(A1 (A1 t).2).1,(Bk (A1 (A1 t).2).2).1] rfl (fun i h _=>by
   have e0:i=0∨i=1∨i=2:=(by simp at h;omega)
   rcases e0 with rfl|rfl|rfl
   ·exact X1.out
   ·exact X2.out
   ·exact X3.out
   )) (fun q hq=>by
   simp only[List.mem_cons,List.not_mem_nil,or_false]at hq
   rcases hq with rfl|rfl|rfl
   ·exact HA.g1 _
   ·exact HA.g1 _
   ·exact HA.gb _
   ) (by simp)).mono ?_
 rintro e w4 hmk
 have HM:=hid (TOut.make I3 HI.lt (G.out) ((Below.refl _ _).alloc (Nat.le_refl _) _) hmk)
 clear hmk
 obtain⟨vz,rfl,_⟩:=HM.out
 go_wp2
 go_ret
 exact HM.out
set_option maxHeartbeats 1600000 in
theorem item5{w:World}{s u t:St}{K2:Nat}(hA:Itm B p len cap a zs (1+(K2:Int)) A1 Ed Bk)(H:In B w p a len cap zs s)(hO:((exactG zs).bl 2 s).1=K2)(hk2:K2<2)(hu:((exactG zs).bl 2 s).2=u)(hK:((exactG zs).bl 8 u).1=5)(ht:((exactG zs).bl 8 u).2=t):
  Calls Tryz.prog 191 #[.pointer (some ⟨p,0,none⟩)] w (TOut B p a len cap zs (itemA (exactG zs) A1 Ed Bk 5 t).1 (itemA (exactG zs) A1 Ed Bk 5 t).2 w):=by
 have HA:=hid hA
 have HI:=hid H
 have HO:=hid hO
 have HU:=hid hu
 have HK:=hid hK
 have HT:=hid ht
 clear hA H hO hu hK ht
 have HP:=HI.lt
 have hb:=exact_lt zs 3 t (by decide)
 obtain⟨N,hN⟩:∃N,((exactG zs).bl 3 t).1=N:=⟨_,rfl⟩
 obtain⟨x,hx⟩:∃x,((exactG zs).bl 3 t).2=x:=⟨_,rfl⟩
 rw[hN]at hb
 have HQ:=hid (show itemA (exactG zs) A1 Ed Bk 5 t=(makeT (nodeS 44 (pkG (exactG zs) l7NameL (timesG (wordG (exactG zs)) N x).2).1) ((timesG (wordG (exactG zs)) N x).1++[(Bk (pkG (exactG zs) l7NameL (timesG (wordG (exactG zs)) N x).2).2).1]),(Bk (pkG (exactG zs) l7NameL (timesG (wordG (exactG zs)) N x).2).2).2) by
  show funcG (exactG zs) Bk t=_
  unfold funcG
  rw[←hx,←hN]
  rfl)
 have HN:=hid hN
 have HX:=hid hx
 clear hN hx
 go_enter Tryz.func191,Tryz.ntmps191
 go_wp2_with fail
 refine(bl_ok 2 (by decide) HO.out HI.out).mono ?_
 rintro e wz ⟨rfl,Iz,Gz⟩
 rw[HU.out]at Iz
 go_wp2_with fail
 refine(bl_ok 8 (by decide) HK.out Iz).mono ?_
 rintro e w0 ⟨rfl,I0,Gy⟩
 rw[HT.out]at I0
 have G0:=hid (grown_trans Gz Gy)
 have K:=G0.size
 clear Iz Gz Gy
 have L0:=hid (LS.start I0 K HP)
 have aa:=hid (grown_below G0.out ((Below.refl w.heap.size w0).alloc K (.cells #[] 24)) rfl)
 go_wp2_with fail
 refine(bl_ok 3 (by decide) HN.out L0.cur).mono ?_
 rintro e w1 ⟨rfl,I1,G1⟩
 rw[HX.out]at I1
 have L1:=hid (L0.next I1 G1)
 have ad:=hid (grown_trans aa.out G1)
 clear I1 G1
 go_wp2
 go_loopw [4,5] (fun v n wr=>RelList B p len cap a zs w (wordG (exactG zs)) N x v n wr) (fun _ n _=>(intOf n).toNat)
 case atStart=>exact⟨0,w0.heap.size,0,[],by omega,by simp,rfl,L1.out,ad.out⟩
 case round=>
  obtain⟨I,g,c,vs,hI,rfl,rfl,hls,hgr⟩:=hrel
  have hvl:=hls.ln
  rw[times_len]at hvl
  subst hvl
  have HL:=hid hls
  have HG:=hid hgr
  clear hls hgr
  by_cases hlt:vs.length<N
  ·have hi:(vs.length:Int)<(N:Int):=by omega
   have ab:0<(N:Int)-(vs.length:Int):=by omega
   go_wp2_with fail
   refine(word_ok HL.cur).mono ?_
   rintro e w2 ⟨⟨rfl,I2,G2⟩,Z2⟩
   have L2:=hid (HL.next I2 G2)
   obtain⟨y,hy⟩:∃y,(pkG (exactG zs) l2WordL (timesG (wordG (exactG zs)) vs.length x).2).1=y:=⟨_,rfl⟩
   have P:=hid (show TOut B p a len cap zs (leaf 1 y) (pkG (exactG zs) l2WordL (timesG (wordG (exactG zs)) vs.length x).2).2 wr _ _ from TOut.leaf0 1 y I2 HL.cur.lt G2)
   obtain⟨v2,G,T2,I3,G3⟩:=P.out
   injection G with G
   subst G
   have L3:=hid (HL.next I3 G3)
   have F:=hid T2
   have j:=hid (grown_trans HG.out G3)
   obtain⟨wl,hwl⟩:∃wl,wl=w2.alloc (.cells #[.int .i64 1,.int .i64 0,.string y,.string ⟨#[]⟩,.slice none 0 0] 57):=⟨_,rfl⟩
   rw[←hwl]at L3 F j
   have HWL:=hid hwl
   have HWS:=hid (show wl.heap.size=w2.heap.size+1 by rw[hwl];simp)
   have HY:=hid hy
   clear T2 I3 G3 I2 G2 P hwl
   rw[hy]
   clear hy
   go_wp2_with (first|(rw[←HWL.out];refine wpList_append_tree _ _ rfl _ _ rfl w.heap.size (.slice (some ⟨g,0,none⟩) vs.length c) vs rfl L3.own (by show Value.slice (some ⟨w2.heap.size+1,0,none⟩) 1 1=_;rw[HWS.out]) rfl (by omega) L3.lw ?_;intro g3 c3 w3 V O Z;have L4:=hid (L3.push F.out HL.g_lt.2 V O (Z.imp (fun e=>by simpa [Value.ownBlock]using e) id));have J:=hid (L3.grown j.out (Nat.le_refl _) O)))
   go_roundw
   case rel=>
    refine⟨vs.length+1,g3,c3,vs++[.slice (some ⟨w2.heap.size,0,none⟩) 1 1],by omega,by go_num,rfl, ?_⟩
    rw[times_snoc]
    rw[show(wordG (exactG zs) (timesG (wordG (exactG zs)) vs.length x).2)=(leaf 1 y,(pkG (exactG zs) l2WordL (timesG (wordG (exactG zs)) vs.length x).2).2) by rw[←HY.out];rfl]
    exact⟨L4.out,J.out⟩
   case measure=>simp[intOf];omega
  ·obtain rfl:vs.length=N:=by omega
   have ab:¬0<(vs.length:Int)-(vs.length:Int):=by omega
   have hgd:=HL.g_lt
   go_wp2_with fail
   refine(pick_ok 3 l7NameL HL.cur rfl (by decide) (by decide)).mono ?_
   rintro e w2 ⟨⟨he,I2,G2⟩,Z2⟩
   obtain⟨y,hy⟩:∃y,(pkG (exactG zs) l7NameL (timesG (wordG (exactG zs)) vs.length x).2).1=y:=⟨_,rfl⟩
   obtain⟨z,hz⟩:∃z,(pkG (exactG zs) l7NameL (timesG (wordG (exactG zs)) vs.length x).2).2=z:=⟨_,rfl⟩
   rw[hy]at he HQ
   rw[hz]at I2 HQ
   subst he
   have L2:=hid (HL.next I2 G2)
   have ac:=hid (grown_trans HG.out G2)
   clear I2 G2 hy hz
   go_wp2_with fail
   refine(HA.b _ _ L2.cur).mono ?_
   rintro e w3 ⟨u3,rfl,T3,I3,G3⟩
   obtain⟨a3,c3,rfl⟩:=T3.form
   have L3:=hid (L2.next I3 G3)
   have F:=hid T3
   have j:=hid (grown_trans ac.out G3)
   have HGL:=hid L2.g_lt
   clear T3 I3 G3
   go_wp2_with (refine wpList_append_tree _ _ rfl _ _ rfl w.heap.size (.slice (some ⟨g,0,none⟩) vs.length c) vs rfl L3.own rfl rfl (by omega) L3.lw ?_;intro g4 c4 w4 Y S X;have L4:=hid (L3.push F.out HGL.out.2 Y S (X.imp (fun e=>by simpa [Value.ownBlock]using e) id));have J:=hid (L3.grown j.out (Nat.le_refl _) S))
   refine(good_partsN (n:=nodeS 44 y) (by simp[times_len]) L4.parts (fun q hq=>by
    rcases List.mem_append.1 hq with h|h
    ·exact times_all (fun s=>(word_small zs s).good (by decide)) _ _ q h
    ·rw[List.mem_singleton]at h;rw[h];exact HA.gb _) (by simp[times_len];omega)).mono ?_
   rintro e w5 hmk
   have HM:=hid (TOut.make L4.cur HP J.out (Below.refl _ _) hmk)
   clear hmk
   obtain⟨vz,rfl,_⟩:=HM.out
   go_wp2
   go_ret
   rw[HQ.out]
   exact HM.out
set_option maxHeartbeats 1600000 in
theorem item6{w:World}{s u t:St}{K2:Nat}(hA:Itm B p len cap a zs (1+(K2:Int)) A1 Ed Bk)(H:In B w p a len cap zs s)(hO:((exactG zs).bl 2 s).1=K2)(hk2:K2<2)(hu:((exactG zs).bl 2 s).2=u)(hK:((exactG zs).bl 8 u).1=6)(ht:((exactG zs).bl 8 u).2=t):
  Calls Tryz.prog 191 #[.pointer (some ⟨p,0,none⟩)] w (TOut B p a len cap zs (itemA (exactG zs) A1 Ed Bk 6 t).1 (itemA (exactG zs) A1 Ed Bk 6 t).2 w):=by
 have HA:=hid hA
 have HI:=hid H
 have HO:=hid hO
 have HU:=hid hu
 have HK:=hid hK
 have HT:=hid ht
 clear hA H hO hu hK ht
 go_enter Tryz.func191,Tryz.ntmps191
 go_wp2_with fail
 refine(bl_ok 2 (by decide) HO.out HI.out).mono ?_
 rintro e wz ⟨rfl,Iz,Gz⟩
 rw[HU.out]at Iz
 go_wp2_with fail
 refine(bl_ok 8 (by decide) HK.out Iz).mono ?_
 rintro e w0 ⟨rfl,I0,Gy⟩
 rw[HT.out]at I0
 have G0:=hid (grown_trans Gz Gy)
 have y:=G0.size
 clear Iz Gz Gy
 go_wp2_with fail
 refine(pick_ok 2 l7TopL I0 rfl (by decide) (by decide)).mono ?_
 rintro e w1 ⟨⟨rfl,I1,G1⟩,Z1⟩
 have j:=hid (grown_trans (G0.out) G1)
 have F:=j.size
 clear G1
 have HM:=hid (TOut.leaf0 34 (pkG (exactG zs) l7TopL t).1 I1 HI.lt (j.out))
 go_wp2
 go_ret
 exact HM.out
set_option maxHeartbeats 1600000 in
theorem item7{w:World}{s u t:St}{K2:Nat}(hA:Itm B p len cap a zs (1+(K2:Int)) A1 Ed Bk)(H:In B w p a len cap zs s)(hO:((exactG zs).bl 2 s).1=K2)(hk2:K2<2)(hu:((exactG zs).bl 2 s).2=u)(hK:((exactG zs).bl 8 u).1=7)(ht:((exactG zs).bl 8 u).2=t):
  Calls Tryz.prog 191 #[.pointer (some ⟨p,0,none⟩)] w (TOut B p a len cap zs (itemA (exactG zs) A1 Ed Bk 7 t).1 (itemA (exactG zs) A1 Ed Bk 7 t).2 w):=by
 have HA:=hid hA
 have HI:=hid H
 have HO:=hid hO
 have HU:=hid hu
 have HK:=hid hK
 have HT:=hid ht
 clear hA H hO hu hK ht
 go_enter Tryz.func191,Tryz.ntmps191
 go_wp2_with fail
 refine(bl_ok 2 (by decide) HO.out HI.out).mono ?_
 rintro e wz ⟨rfl,Iz,Gz⟩
 rw[HU.out]at Iz
 go_wp2_with fail
 refine(bl_ok 8 (by decide) HK.out Iz).mono ?_
 rintro e w0 ⟨rfl,I0,Gy⟩
 rw[HT.out]at I0
 have G0:=hid (grown_trans Gz Gy)
 have I:=G0.size
 clear Iz Gz Gy
 go_wp2_with fail
 refine(HA.e _ _ I0).mono ?_
 rintro e w1 ⟨v1,rfl,T1,I1,G1⟩
 obtain⟨a1,c1,rfl⟩:=T1.form
 have F:=hid (grown_trans (G0.out) G1)
 have J:=F.size
 clear G1
 have X1:=hid (TR.down T1 (S':=w.heap.size) (by omega) HI.lt)
 clear T1
 go_wp2_with fail
 refine(HA.b _ _ I1).mono ?_
 rintro e w2 ⟨v2,rfl,T2,I2,G2⟩
 obtain⟨a2,c2,rfl⟩:=T2.form
 have y:=hid (X1.grown G2)
 clear X1
 have X1:=y
 clear y
 have j:=hid (grown_trans (F.out) G2)
 have G:=j.size
 clear G2
 have X2:=hid (TR.down T2 (S':=w.heap.size) (by omega) HI.lt)
 clear T2
 go_wp2_with fail
 refine(good_parts (n:=nodeO 42 3) (parts_of [.slice a1 _ c1,.slice a2 _ c2] [(Ed t).1,(Bk (Ed t).2).1] rfl (fun i h _=>by
   have e0:i=0∨i=1:=(by simp at h;omega)
   rcases e0 with rfl|rfl
   ·exact X1.out
   ·exact X2.out
   )) (fun q hq=>by
   simp only[List.mem_cons,List.not_mem_nil,or_false]at hq
   rcases hq with rfl|rfl
   ·exact HA.ge _
   ·exact HA.gb _
   ) (by simp)).mono ?_
 rintro e w3 hmk
 have HM:=hid (TOut.make I2 HI.lt (j.out) ((Below.refl _ _).alloc (Nat.le_refl _) _) hmk)
 clear hmk
 obtain⟨vz,rfl,_⟩:=HM.out
 go_wp2
 go_ret
 exact HM.out
end
end Go.Proofs.YtnoagleifffkcaaGreatDoor.draw
