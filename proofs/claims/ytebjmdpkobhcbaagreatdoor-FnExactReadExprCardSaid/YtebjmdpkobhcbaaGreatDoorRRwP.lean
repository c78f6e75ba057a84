/- A part. -/
import Derived.Test.YtebjmdpkobhcbaaGreatDoorRGRt
import Derived.Test.YtebjmdpkobhcbaaGreatDoorRGPi
namespace Go.Proofs.YtebjmdpkobhcbaaGreatDoor.qs
open Go.ChangeShapes Go.WideShapes Go.ChangeAt Go.RowKit
open tk (Tk)
open nd (Nd PT KidV makeT)
open ps (Ps posOk top)
open pe
open operand (begins)
open tksok (tokensOk)
open pr (Bk Gr X0 below_drewN eq_facts ne_facts fld_k fld_s lies_on below_put2 POut)
set_option linter.unusedVariables false
set_option linter.unusedSimpArgs false
set_option maxRecDepth 20000
set_option maxHeartbeats 6400000
theorem parse_any(l:List Tk)(a:Option Addr)(cap:Nat)(p:Ps)(w:World)(hc:tk.Lies w.heap.size w a l)(hl:l.length<=1048576)(hm:∀t∈l,t.s.size<=1048576):
  Calls Tryz.prog 24 #[.slice a l.length cap,.agg #[.int .i64 p.l,.bool p.d,.bool p.i,.bool p.g,.bool p.s]] w (POut (parse l p) w):=by
 cases h:posOk p.l p.d with
 |false=>exact parse_pos l a cap p w hc hl hm h
 |true=>
  cases h2:tokensOk l with
  |false=>exact parse_toks l a cap p w hc hl hm h h2
  |true=>
   by_cases h3:0<=pb.nestOf l
   ·exact parse_nest l a cap p w hc hl hm h h2 h3
   ·cases h4:(p.s&& !begins (kd l 0))with
    |true=>exact parse_sign l a cap p w hc hl hm h h2 h3 h4
    |false=>exact parse_any0 l a cap p w hc hl hm h h2 h3 h4
end Go.Proofs.YtebjmdpkobhcbaaGreatDoor.qs
