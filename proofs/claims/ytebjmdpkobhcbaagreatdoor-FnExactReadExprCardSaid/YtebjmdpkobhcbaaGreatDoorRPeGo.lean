/- A part. -/
import Derived.Test.YtebjmdpkobhcbaaGreatDoorRPeMath
namespace Go.Proofs.YtebjmdpkobhcbaaGreatDoor.pe
open Go.RowKit
open nd (Nd makeT makeGo shN shK)
set_option linter.unusedVariables false
set_option linter.unusedSimpArgs false
set_option maxRecDepth 20000
def G1(B:Nat)(ps:List (List Nd)):List Nd:=(makeGo ps [] []).1.map (shN (B:Int))
def G2(B:Nat)(ps:List (List Nd)):List Int:=shK (B:Int) (makeGo ps [] []).2
theorem sh_sh(x y:Int)(t:List Nd):(t.map (shN x)).map (shN y)=t.map (shN (x+y)):=by
 rw[List.map_map]
 refine List.map_congr_left (fun n _=> ?_)
 simp only[Function.comp_apply,shN,shK,List.map_map]
 congr 1
 refine List.map_congr_left (fun k _=> ?_)
 simp only[Function.comp_apply,wrap_wrap]
 rw[Int.add_assoc]
theorem G1_nil(B:Nat):G1 B []=[]:=rfl
theorem G2_nil(B:Nat):G2 B []=[]:=rfl
theorem G1_len(B:Nat)(ps:List (List Nd)):(G1 B ps).length=nd.sumL ps:=by
 unfold G1;rw[List.length_map,nd.makeGo_len];simp
theorem G2_len(B:Nat)(ps:List (List Nd)):(G2 B ps).length=ps.length:=by
 unfold G2;rw[nd.shK_len,nd.makeGo_klen];simp
theorem G1_snoc(B:Nat)(ps:List (List Nd))(q:List Nd):G1 B (ps++[q])=G1 B ps++q.map (shN ((B+(G1 B ps).length:Nat):Int)):=by
 rw[G1_len]
 unfold G1
 rw[nd.makeGo_snoc,List.map_append,sh_sh,nd.makeGo_len]
 simp only[List.length_nil,Nat.zero_add]
 rw[show(nd.sumL ps:Int)+(B:Int)=((B+nd.sumL ps:Nat):Int) by omega]
theorem G2_snoc(B:Nat)(ps:List (List Nd))(q:List Nd)(h:B+nd.sumL ps+q.length<=1000000):G2 B (ps++[q])=G2 B ps++[((B+(G1 B (ps++[q])).length:Nat):Int)-1]:=by
 rw[G1_len,sum_snoc]
 unfold G2
 rw[nd.makeGo_snoc]
 simp only[shK,List.map_append,List.map_cons,List.map_nil,List.length_append,List.length_map,nd.makeGo_len,List.length_nil,Nat.zero_add]
 congr 2
 rw[wrap_id (by omega) (by omega)]
 omega
theorem mk_nodes(B:Nat)(k op:Int)(s:ByteArray)(ps:List (List Nd)):(makeT (nd0 k op s) ps).map (shN (B:Int))=G1 B ps++[⟨k,op,s,⟨#[]⟩,G2 B ps⟩]:=by
 unfold makeT G1 G2
 rw[List.map_append]
 rfl
theorem G_one(B:Nat)(t:List Nd):G1 B [t]=t.map (shN (B:Int)):=by
 have:=G1_snoc B [] t
 rw[G1_nil]at this
 simpa using this
theorem sh_zero{M:Nat}{t:List Nd}(h:Gd M t):t.map (shN 0)=t:=by
 conv=>rhs;rw[<-List.map_id t]
 refine List.map_congr_left (fun n hn=> ?_)
 have:=(h n hn).2.2.2
 obtain⟨k,op,s,x,kids⟩:=n
 simp only[shN,shK,id]
 congr 1
 conv=>rhs;rw[<-List.map_id kids]
 refine List.map_congr_left (fun y hy=> ?_)
 simp only[Int.add_zero,id]
 exact this y hy
def zs(m:Nat):List Int:=List.replicate m 0
theorem kid_set(B:Nat)(ps:List (List Nd))(q:List Nd)(m:Nat)(h:B+nd.sumL ps+q.length<=1000000):(G2 B ps++zs (m+1)).set ps.length (((B+(G1 B (ps++[q])).length:Nat):Int)-1)=G2 B (ps++[q])++zs m:=by
 rw[G2_snoc B ps q h]
 have:ps.length=(G2 B ps).length:=(G2_len B ps).symm
 rw[this,List.set_append_right _ _ (Nat.le_refl _),Nat.sub_self]
 simp[zs,List.replicate_succ]
end Go.Proofs.YtebjmdpkobhcbaaGreatDoor.pe
