/-
  impl's tokenWriter: list: contract.
  impl's tokenWriter: the methods for each kind of expression: contracts.
  impl's tokenWriter: expr, as ExprTokens and as FullTokens make it: contracts.
  impl's tokenWriter: methodOf, unenclosed: contracts.
  impl.ExprTokens, impl.FullTokens: the tokens that the mathematics names, in memory of the call's own: contracts.
  Operands over tokens in memory: contracts of both sides.
  The tokens with texts of their own that an expression is made of: the mathematics. What stands in ExprTokens of a tree, at any position, with and without parentheses, is the same list.
  impl.Yield: the tokens with texts of their own among those of ExprTokens at Top, in memory of the call's own: a contract.
  Lists of tokens of one's own joined by append, in a walk and in a region that draws; literals of tokens; spec.l10Tok, spec.l10Leaf: contracts.
  spec.Fits: its contract.
  spec.l10Lvalue, spec.l10At, as ExprTokens and as FullTokens have it: contracts.
  spec.l10List, spec.l10Named: contracts.
  spec.Yield, spec.l12Yield: contracts.
-/
import Derived.Test.YtiilpnoaocfjgaaGreatDoorWriteKid
import Derived.Test.YtiilpnoaocfjgaaGreatDoorTk
import Derived.Test.YtiilpnoaocfjgaaGreatDoorChars
import Derived.Test.YtiilpnoaocfjgaaGreatDoorTokMath
import Derived.Test.YtiilpnoaocfjgaaGreatDoorOwn2
import Derived.Test.YtiilpnoaocfjgaaGreatDoorSpell
import Derived.Deep.RegionHeld3
import Derived.Test.YtiilpnoaocfjgaaGreatDoorPos
import Derived.Deep.CutRange
import Derived.Deep.CutBlock
import Derived.Deep.DeepCutAuto
import Derived.Test.YtiilpnoaocfjgaaGreatDoorKidPos
namespace Go.Proofs.YtiilpnoaocfjgaaGreatDoor.tw
open Go.ChangeShapes Go.WideShapes Go.ChangeAt Go.RowKit
open tk (Tk)
open own
open nd (Nd Ints)
open ps (Ps posOk kidI top)
open spell (Held)
open et
set_option linter.unusedVariables false
set_option maxRecDepth 20000

theorem lst_succ (E : Nat → Ps → List Tk) (n : Nd) (J : Nat) : lst E n (J + 1) = lst E n J ++ (if J = 0 then [] else [tok 36]) ++ E (kd n J) top := rfl
theorem lst_le (E : Nat → Ps → List Tk) (n : Nd) (J : Nat) : ∀ d, (lst E n J).length ≤ (lst E n (J + d)).length := by
  intro d
  induction d with
  | zero => exact Nat.le_refl _
  | succ d ih =>
    refine Nat.le_trans ih ?_
    rw [← Nat.add_assoc, lst_succ, List.length_append, List.length_append]
    omega
theorem lst_to (E : Nat → Ps → List Tk) (n : Nd) {J K : Nat} (h : J ≤ K) : (lst E n J).length ≤ (lst E n K).length := by
  obtain ⟨d, rfl⟩ : ∃ d, K = J + d := ⟨K - J, by omega⟩
  exact lst_le E n J d
def RelLi (w0 : World) (a : Option Addr) (m cap : Nat) (fv v : Value) (ts : List Tk) (E : Nat → Ps → List Tk) (n : Nd) (f : Int) (w : World) (i : Value) (wr : World) : Prop :=
  ∃ (J : Nat) (v' : Value), J ≤ n.kids.length ∧ i = .int .i64 (J : Int) ∧ St w0 a m cap fv v' (ts ++ (tok f :: lst E n J)) wr ∧ Gr w0.heap.size v v' w wr

set_option maxHeartbeats 1600000 in
theorem list_any {w0 : World} {a : Option Addr} {m cap : Nat} {fv : Value} {E : Nat → Ps → List Tk} {v : Value} {ts : List Tk} (n : Nd) (ak : Option Addr) (ck : Nat) (f g : Int) (w : World) (hh : Held w0) (hn : n.kids.length ≤ 1048576) (hkd : ∀ K, K < n.kids.length → n.kids.getD K 0 = (kd n K : Int)) (hi : Ints w0.heap.size w0 ak n.kids)
    (hE : ∀ K, K < n.kids.length → CallE 83 w0 a m cap fv (kd n K) (E (kd n K))) (hst : St w0 a m cap fv v ts w) (hl : ts.length + (brack E n f g).length ≤ 1048576) :
    Calls Tryz.prog 351 #[.pointer (some ⟨w0.heap.size, 0, none⟩), .agg #[.int .i64 n.k, .int .i64 n.op, .string n.s, .string n.t, .slice ak n.kids.length ck], .int .i64 f, .int .i64 g] w (Put w0 a m cap fv v ts (brack E n f g) w) := by
  have HH := Lib.hid hh
  have HKD := Lib.hid hkd
  have HI := Lib.hid hi
  have HE := Lib.hid hE
  have hl2 : ts.length + (lst E n n.kids.length).length + 2 ≤ 1048576 := by
    simp only [brack, List.length_cons, List.length_append, List.length_nil] at hl
    omega
  have HL := Lib.hid hl2
  have HS := Lib.hid (hst.alloc (.cells #[.int .i64 n.k, .int .i64 n.op, .string n.s, .string n.t, .slice ak n.kids.length ck] 60))
  have HG := Lib.hid (show Gr w0.heap.size v v w (w.alloc (.cells #[.int .i64 n.k, .int .i64 n.op, .string n.s, .string n.t, .slice ak n.kids.length ck] 60)) from Gr.quiet ((Below.refl _ _).alloc (Nat.le_refl _) _))
  have HB := Lib.hid (show ∀ v' w', Gr w0.heap.size v v' (w.alloc (.cells #[.int .i64 n.k, .int .i64 n.op, .string n.s, .string n.t, .slice ak n.kids.length ck] 60)) w' → w'.cell? ⟨w.heap.size, 4, none⟩ = some (.slice ak n.kids.length ck) from fun v' w' hg => by
    have hx := hg.keep w.heap.size (by simp) (by have := hst.lt; omega) (hst.new (Nat.le_refl _))
    rw [cell_of_row w' _ 4 _ _ _ (hx.trans (heap_alloc_new w (.cells #[.int .i64 n.k, .int .i64 n.op, .string n.s, .string n.t, .slice ak n.kids.length ck] 60)))]; rfl)
  obtain ⟨nk, hnk⟩ : ∃ nk, n.kids.length = nk := ⟨_, rfl⟩
  have HNK := Lib.hid hnk
  rw [hnk] at HL HS HG HB hn
  rw [hnk]
  clear hh hkd hi hE hl hl2 hst hnk
  go_enter Tryz.func351, Tryz.ntmps351
  go_wp2_with fail
  refine (symbol_any HH.out f _ (by have := HL.out; omega) HS.out).mono ?_
  rintro e w1 ⟨rfl, v1, s1, g1⟩
  have S1 := Lib.hid s1
  have G1 := Lib.hid (HG.out.trans g1)
  have c4 := HB.out v1 w1 g1
  clear s1 g1
  go_wp2
  go_loopw [16] (fun i wr => RelLi w0 a m cap fv v ts E n f w i wr) (fun i _ => nk - (intOf i).toNat)
  case atStart => exact ⟨0, v1, by omega, rfl, S1.out, G1.out⟩
  case round =>
    obtain ⟨J, v2, hJ, rfl, s2, g2⟩ := hrel
    have S2 := Lib.hid s2
    have G2 := Lib.hid g2
    rw [HNK.out] at hJ
    clear s2 g2
    by_cases hlt : J < nk
    · have hltk : J < n.kids.length := by have := HNK.out; omega
      obtain ⟨bk, ok, rfl, hbk, hkc⟩ := kid_cell HI.out S2.out.bel hltk (HKD.out J hltk)
      have hle := lst_to E n (show J + 1 ≤ n.kids.length by omega)
      rw [lst_succ, List.length_append, List.length_append, HNK.out] at hle
      have hi1 : (J : Int) < (nk : Int) := by omega
      have HEJ := Lib.hid (HE.out J hltk)
      by_cases h0 : J = 0
      · subst h0
        have HL1 := Lib.hid (show (ts ++ (tok f :: lst E n 0)).length + (E (kd n 0) top).length ≤ 1048576 by have := HL.out; simp only [List.length_cons, List.length_append] at *; omega)
        simp only [Nat.add_zero] at hkc
        clear hle
        go_wp2_with fail
        refine (ps.impl_top _).mono ?_
        rintro e w3 ⟨rfl, b3⟩
        have S3 := Lib.hid (S2.out.keep b3)
        have G3 := Lib.hid (G2.out.trans (Gr.quiet b3))
        clear b3
        go_wp2_with fail
        refine (HEJ.out top top_ok _ _ _ S3.out HL1.out).mono ?_
        rintro e w4 ⟨rfl, v4, s4, g4⟩
        have S4 := Lib.hid s4
        have G4 := Lib.hid (G3.out.trans g4)
        clear s4 g4
        go_wp2
        go_roundw
        case rel =>
          refine ⟨1, v4, by omega, rfl, ?_, G4.out⟩
          have := S4.out
          rw [lst_succ]
          simpa only [List.append_assoc, List.cons_append, List.nil_append, if_pos, lst] using this
        case measure => simp [intOf]; omega
      · have hj0 : (0 : Int) < (J : Int) := by omega
        rw [if_neg h0] at hle
        have HL0 := Lib.hid (show (ts ++ (tok f :: lst E n J)).length ≤ 1048576 by have := HL.out; simp only [List.length_cons, List.length_append] at *; omega)
        have HL1 := Lib.hid (show ((ts ++ (tok f :: lst E n J)) ++ [tok 36]).length + (E (kd n J) top).length ≤ 1048576 by have := HL.out; simp only [List.length_cons, List.length_append, List.length_nil] at *; omega)
        clear hle
        go_wp2_with fail
        refine (symbol_any HH.out 36 _ HL0.out S2.out).mono ?_
        rintro e w3 ⟨rfl, v3, s3, g3⟩
        have S3 := Lib.hid s3
        have G3 := Lib.hid (G2.out.trans g3)
        clear s3 g3
        go_wp2_with fail
        refine (ps.impl_top _).mono ?_
        rintro e w4 ⟨rfl, b4⟩
        have S4 := Lib.hid (S3.out.keep b4)
        have G4 := Lib.hid (G3.out.trans (Gr.quiet b4))
        clear b4
        go_wp2_with fail
        refine (HEJ.out top top_ok _ _ _ S4.out HL1.out).mono ?_
        rintro e w5 ⟨rfl, v5, s5, g5⟩
        have S5 := Lib.hid s5
        have G5 := Lib.hid (G4.out.trans g5)
        clear s5 g5
        go_wp2
        go_roundw
        case rel =>
          refine ⟨J + 1, v5, by omega, by go_num, ?_, G5.out⟩
          have := S5.out
          rw [lst_succ, if_neg h0]
          simpa only [List.append_assoc, List.cons_append, List.nil_append] using this
        case measure => simp [intOf]; omega
    · obtain rfl : J = nk := by omega
      have HL1 := Lib.hid (show (ts ++ (tok f :: lst E n J)).length ≤ 1048576 by have := HL.out; simp only [List.length_cons, List.length_append] at *; omega)
      go_wp2_with fail
      refine (symbol_any HH.out g _ HL1.out S2.out).mono ?_
      rintro e w3 ⟨rfl, v3, s3, g3⟩
      have S3 := Lib.hid s3
      have G3 := Lib.hid (G2.out.trans g3)
      clear s3 g3
      go_wp2
      go_end0
      refine ⟨rfl, v3, ?_, G3.out⟩
      have := S3.out
      unfold brack
      rw [HNK.out]
      simpa only [List.append_assoc, List.cons_append, List.nil_append] using this
end Go.Proofs.YtiilpnoaocfjgaaGreatDoor.tw

namespace Go.Proofs.YtiilpnoaocfjgaaGreatDoor.tw
open Go.ChangeShapes Go.WideShapes Go.ChangeAt Go.RowKit
open tk (Tk)
open own
open nd (Nd Ints)
open ps (Ps posOk kidI top)
open spell (Held)
open et
set_option linter.unusedVariables false
set_option linter.unusedSimpArgs false
set_option maxRecDepth 20000

theorem kid_lit {w0 : World} {a : Option Addr} {m cap : Nat} {fv : Value} {F : Nat → Ps → List Tk} {v : Value} {ts : List Tk} (n : Nd) (ak : Option Addr) (ck : Nat) (p : Ps) (K : Nat) (Ki : Int) (hKi : Ki = (K : Int)) (hK : K < n.kids.length) (w : World) (hp : posOk p.l p.d = true) (hq : posOk (kp n K p).l (kp n K p).d = true) (hn : n.kids.length ≤ 1048576) (hkd : n.kids.getD K 0 = (kd n K : Int)) (hi : Ints w0.heap.size w0 ak n.kids)
    (hE : CallE 83 w0 a m cap fv (kd n K) (F (kd n K))) (hst : St w0 a m cap fv v ts w) (hl : ts.length + (F (kd n K) (kp n Ki p)).length ≤ 1048576) :
    Calls Tryz.prog 352 #[.pointer (some ⟨w0.heap.size, 0, none⟩), .agg #[.int .i64 n.k, .int .i64 n.op, .string n.s, .string n.t, .slice ak n.kids.length ck], .int .i64 Ki, .agg #[.int .i64 p.l, .bool p.d, .bool p.i, .bool p.g, .bool p.s]] w (Put w0 a m cap fv v ts (F (kd n K) (kp n Ki p)) w) := by
  subst hKi
  exact kid_any n ak ck p K hK w hp hq hn hkd hi hE hst hl

/-- What a method is given: a node of a right tree, a valid position, the contracts for its kids. -/
structure Giv (w0 : World) (a : Option Addr) (m cap : Nat) (fv : Value) (l : List Nd) (i : Nat) (n : Nd) (ak : Option Addr) (p : Ps) (E U : Nat → Ps → List Tk) : Prop where
  held : Held w0
  good : et.Good l i n
  row : Ints w0.heap.size w0 ak n.kids
  pos : posOk p.l p.d = true
  e : ∀ K, K < n.kids.length → CallE 83 w0 a m cap fv (kd n K) (E (kd n K))
  u : 0 < n.kids.length → CallE 151 w0 a m cap fv (kd n 0) (U (kd n 0))
theorem Giv.kp {w0 : World} {a : Option Addr} {m cap : Nat} {fv : Value} {l : List Nd} {i : Nat} {n : Nd} {ak : Option Addr} {p : Ps} {E U : Nat → Ps → List Tk} (h : Giv w0 a m cap fv l i n ak p E U) {K : Nat} (hK : K < n.kids.length) : posOk (et.kp n K p).l (et.kp n K p).d = true := (kp_ok h.good h.pos hK).1
theorem Giv.kd {w0 : World} {a : Option Addr} {m cap : Nat} {fv : Value} {l : List Nd} {i : Nat} {n : Nd} {ak : Option Addr} {p : Ps} {E U : Nat → Ps → List Tk} (h : Giv w0 a m cap fv l i n ak p E U) {K : Nat} (hK : K < n.kids.length) : n.kids.getD K 0 = (et.kd n K : Int) := (h.good.kids K hK).2.1
theorem Giv.len {w0 : World} {a : Option Addr} {m cap : Nat} {fv : Value} {l : List Nd} {i : Nat} {n : Nd} {ak : Option Addr} {p : Ps} {E U : Nat → Ps → List Tk} (h : Giv w0 a m cap fv l i n ak p E U) : n.kids.length ≤ 1048576 := by have := h.good.most; omega

set_option maxHeartbeats 1600000 in
theorem m_name {w0 : World} {a : Option Addr} {m cap : Nat} {fv : Value} {l : List Nd} {i : Nat} {E U : Nat → Ps → List Tk} {v : Value} {ts : List Tk} (n : Nd) (ak : Option Addr) (ck : Nat) (p : Ps) (w : World) (hc : n.k = 1) (hv : Giv w0 a m cap fv l i n ak p E U) (hst : St w0 a m cap fv v ts w) (hl : ts.length + (body E U n p).length ≤ 1048576) :
    Calls Tryz.prog 323 #[.pointer (some ⟨w0.heap.size, 0, none⟩), .agg #[.int .i64 n.k, .int .i64 n.op, .string n.s, .string n.t, .slice ak n.kids.length ck], .agg #[.int .i64 p.l, .bool p.d, .bool p.i, .bool p.g, .bool p.s]] w (Put w0 a m cap fv v ts (body E U n p) w) := by
  obtain ⟨x0, s0, g0⟩ := Fm.start hst n ak ck p
  obtain ⟨c0, c1, c2, c3, c4, d0, d1, d2, d3, d4⟩ := x0.c
  have X0 := Lib.hid x0
  have S0 := Lib.hid s0
  have G0 := Lib.hid g0
  have HV := Lib.hid hv
  rw [body_1 hc] at hl ⊢
  clear x0 s0 g0 hv hst hc
  try simp only [List.length_append, List.length_cons, List.length_nil] at hl
  have L0 := Lib.hid (show (ts).length + ([nam 6 n.s]).length ≤ 1048576 by (try simp only [List.length_append, List.length_cons, List.length_nil]); omega)
  clear hl
  go_enter Tryz.func323, Tryz.ntmps323
  go_wp2_with fail
  refine (add_any 6 n.s _ (by have := L0.out; omega) S0.out).mono ?_
  rintro e w1 ⟨rfl, v1, s1, g1⟩
  have X1 := Lib.hid (X0.out.on g1)
  have S1 := Lib.hid s1
  have G1 := Lib.hid (G0.out.trans g1)
  clear c0 c1 c2 c3 c4 d0 d1 d2 d3 d4 s1 g1
  go_wp2
  go_end0
  refine ⟨rfl, v1, ?_, G1.out⟩
  have := S1.out
  first | exact this | simpa only [List.append_assoc, List.cons_append, List.nil_append, nam] using this

set_option maxHeartbeats 1600000 in
theorem m_number {w0 : World} {a : Option Addr} {m cap : Nat} {fv : Value} {l : List Nd} {i : Nat} {E U : Nat → Ps → List Tk} {v : Value} {ts : List Tk} (n : Nd) (ak : Option Addr) (ck : Nat) (p : Ps) (w : World) (hc : n.k = 2) (hv : Giv w0 a m cap fv l i n ak p E U) (hst : St w0 a m cap fv v ts w) (hl : ts.length + (body E U n p).length ≤ 1048576) :
    Calls Tryz.prog 309 #[.pointer (some ⟨w0.heap.size, 0, none⟩), .agg #[.int .i64 n.k, .int .i64 n.op, .string n.s, .string n.t, .slice ak n.kids.length ck], .agg #[.int .i64 p.l, .bool p.d, .bool p.i, .bool p.g, .bool p.s]] w (Put w0 a m cap fv v ts (body E U n p) w) := by
  obtain ⟨x0, s0, g0⟩ := Fm.start hst n ak ck p
  obtain ⟨c0, c1, c2, c3, c4, d0, d1, d2, d3, d4⟩ := x0.c
  have X0 := Lib.hid x0
  have S0 := Lib.hid s0
  have G0 := Lib.hid g0
  have HV := Lib.hid hv
  rw [body_2 hc] at hl ⊢
  clear x0 s0 g0 hv hst hc
  try simp only [List.length_append, List.length_cons, List.length_nil] at hl
  have L0 := Lib.hid (show (ts).length + ([nam 3 n.s]).length ≤ 1048576 by (try simp only [List.length_append, List.length_cons, List.length_nil]); omega)
  clear hl
  go_enter Tryz.func309, Tryz.ntmps309
  go_wp2_with fail
  refine (add_any 3 n.s _ (by have := L0.out; omega) S0.out).mono ?_
  rintro e w1 ⟨rfl, v1, s1, g1⟩
  have X1 := Lib.hid (X0.out.on g1)
  have S1 := Lib.hid s1
  have G1 := Lib.hid (G0.out.trans g1)
  clear c0 c1 c2 c3 c4 d0 d1 d2 d3 d4 s1 g1
  go_wp2
  go_end0
  refine ⟨rfl, v1, ?_, G1.out⟩
  have := S1.out
  first | exact this | simpa only [List.append_assoc, List.cons_append, List.nil_append, nam] using this

set_option maxHeartbeats 1600000 in
theorem m_str {w0 : World} {a : Option Addr} {m cap : Nat} {fv : Value} {l : List Nd} {i : Nat} {E U : Nat → Ps → List Tk} {v : Value} {ts : List Tk} (n : Nd) (ak : Option Addr) (ck : Nat) (p : Ps) (w : World) (hc : n.k = 3) (hv : Giv w0 a m cap fv l i n ak p E U) (hst : St w0 a m cap fv v ts w) (hl : ts.length + (body E U n p).length ≤ 1048576) :
    Calls Tryz.prog 310 #[.pointer (some ⟨w0.heap.size, 0, none⟩), .agg #[.int .i64 n.k, .int .i64 n.op, .string n.s, .string n.t, .slice ak n.kids.length ck], .agg #[.int .i64 p.l, .bool p.d, .bool p.i, .bool p.g, .bool p.s]] w (Put w0 a m cap fv v ts (body E U n p) w) := by
  obtain ⟨x0, s0, g0⟩ := Fm.start hst n ak ck p
  obtain ⟨c0, c1, c2, c3, c4, d0, d1, d2, d3, d4⟩ := x0.c
  have X0 := Lib.hid x0
  have S0 := Lib.hid s0
  have G0 := Lib.hid g0
  have HV := Lib.hid hv
  rw [body_3 hc] at hl ⊢
  clear x0 s0 g0 hv hst hc
  try simp only [List.length_append, List.length_cons, List.length_nil] at hl
  have L0 := Lib.hid (show (ts).length + ([nam 4 n.s]).length ≤ 1048576 by (try simp only [List.length_append, List.length_cons, List.length_nil]); omega)
  clear hl
  go_enter Tryz.func310, Tryz.ntmps310
  go_wp2_with fail
  refine (add_any 4 n.s _ (by have := L0.out; omega) S0.out).mono ?_
  rintro e w1 ⟨rfl, v1, s1, g1⟩
  have X1 := Lib.hid (X0.out.on g1)
  have S1 := Lib.hid s1
  have G1 := Lib.hid (G0.out.trans g1)
  clear c0 c1 c2 c3 c4 d0 d1 d2 d3 d4 s1 g1
  go_wp2
  go_end0
  refine ⟨rfl, v1, ?_, G1.out⟩
  have := S1.out
  first | exact this | simpa only [List.append_assoc, List.cons_append, List.nil_append, nam] using this

set_option maxHeartbeats 1600000 in
theorem m_ere {w0 : World} {a : Option Addr} {m cap : Nat} {fv : Value} {l : List Nd} {i : Nat} {E U : Nat → Ps → List Tk} {v : Value} {ts : List Tk} (n : Nd) (ak : Option Addr) (ck : Nat) (p : Ps) (w : World) (hc : n.k = 4) (hv : Giv w0 a m cap fv l i n ak p E U) (hst : St w0 a m cap fv v ts w) (hl : ts.length + (body E U n p).length ≤ 1048576) :
    Calls Tryz.prog 311 #[.pointer (some ⟨w0.heap.size, 0, none⟩), .agg #[.int .i64 n.k, .int .i64 n.op, .string n.s, .string n.t, .slice ak n.kids.length ck], .agg #[.int .i64 p.l, .bool p.d, .bool p.i, .bool p.g, .bool p.s]] w (Put w0 a m cap fv v ts (body E U n p) w) := by
  obtain ⟨x0, s0, g0⟩ := Fm.start hst n ak ck p
  obtain ⟨c0, c1, c2, c3, c4, d0, d1, d2, d3, d4⟩ := x0.c
  have X0 := Lib.hid x0
  have S0 := Lib.hid s0
  have G0 := Lib.hid g0
  have HV := Lib.hid hv
  rw [body_4 hc] at hl ⊢
  clear x0 s0 g0 hv hst hc
  try simp only [List.length_append, List.length_cons, List.length_nil] at hl
  have L0 := Lib.hid (show (ts).length + ([nam 5 n.s]).length ≤ 1048576 by (try simp only [List.length_append, List.length_cons, List.length_nil]); omega)
  clear hl
  go_enter Tryz.func311, Tryz.ntmps311
  go_wp2_with fail
  refine (add_any 5 n.s _ (by have := L0.out; omega) S0.out).mono ?_
  rintro e w1 ⟨rfl, v1, s1, g1⟩
  have X1 := Lib.hid (X0.out.on g1)
  have S1 := Lib.hid s1
  have G1 := Lib.hid (G0.out.trans g1)
  clear c0 c1 c2 c3 c4 d0 d1 d2 d3 d4 s1 g1
  go_wp2
  go_end0
  refine ⟨rfl, v1, ?_, G1.out⟩
  have := S1.out
  first | exact this | simpa only [List.append_assoc, List.cons_append, List.nil_append, nam] using this

set_option maxHeartbeats 1600000 in
theorem m_index {w0 : World} {a : Option Addr} {m cap : Nat} {fv : Value} {l : List Nd} {i : Nat} {E U : Nat → Ps → List Tk} {v : Value} {ts : List Tk} (n : Nd) (ak : Option Addr) (ck : Nat) (p : Ps) (w : World) (hc : n.k = 5) (hv : Giv w0 a m cap fv l i n ak p E U) (hst : St w0 a m cap fv v ts w) (hl : ts.length + (body E U n p).length ≤ 1048576) :
    Calls Tryz.prog 312 #[.pointer (some ⟨w0.heap.size, 0, none⟩), .agg #[.int .i64 n.k, .int .i64 n.op, .string n.s, .string n.t, .slice ak n.kids.length ck], .agg #[.int .i64 p.l, .bool p.d, .bool p.i, .bool p.g, .bool p.s]] w (Put w0 a m cap fv v ts (body E U n p) w) := by
  obtain ⟨x0, s0, g0⟩ := Fm.start hst n ak ck p
  obtain ⟨c0, c1, c2, c3, c4, d0, d1, d2, d3, d4⟩ := x0.c
  have X0 := Lib.hid x0
  have S0 := Lib.hid s0
  have G0 := Lib.hid g0
  have HV := Lib.hid hv
  rw [body_5 hc] at hl ⊢
  clear x0 s0 g0 hv hst hc
  try simp only [List.length_append, List.length_cons, List.length_nil] at hl
  have L0 := Lib.hid (show (ts).length + ([nam 6 n.s]).length ≤ 1048576 by (try simp only [List.length_append, List.length_cons, List.length_nil]); omega)
  have L1 := Lib.hid (show (ts ++ [nam 6 n.s]).length + (brack E n 34 35).length ≤ 1048576 by (try simp only [List.length_append, List.length_cons, List.length_nil]); omega)
  clear hl
  go_enter Tryz.func312, Tryz.ntmps312
  go_wp2_with fail
  refine (add_any 6 n.s _ (by have := L0.out; omega) S0.out).mono ?_
  rintro e w1 ⟨rfl, v1, s1, g1⟩
  have X1 := Lib.hid (X0.out.on g1)
  have S1 := Lib.hid s1
  have G1 := Lib.hid (G0.out.trans g1)
  clear c0 c1 c2 c3 c4 d0 d1 d2 d3 d4 s1 g1
  obtain ⟨c0, c1, c2, c3, c4, d0, d1, d2, d3, d4⟩ := X1.out.c
  go_wp2_with fail
  refine (list_any (E := E) n ak ck 34 35 _ HV.out.held HV.out.len (fun K hK => HV.out.kd hK) HV.out.row HV.out.e S1.out L1.out).mono ?_
  rintro e w2 ⟨rfl, v2, s2, g2⟩
  have X2 := Lib.hid (X1.out.on g2)
  have S2 := Lib.hid s2
  have G2 := Lib.hid (G1.out.trans g2)
  clear c0 c1 c2 c3 c4 d0 d1 d2 d3 d4 s2 g2
  go_wp2
  go_end0
  refine ⟨rfl, v2, ?_, G2.out⟩
  have := S2.out
  first | exact this | simpa only [List.append_assoc, List.cons_append, List.nil_append, nam] using this

set_option maxHeartbeats 1600000 in
theorem m_field {w0 : World} {a : Option Addr} {m cap : Nat} {fv : Value} {l : List Nd} {i : Nat} {E U : Nat → Ps → List Tk} {v : Value} {ts : List Tk} (n : Nd) (ak : Option Addr) (ck : Nat) (p : Ps) (w : World) (hc : n.k = 6) (hv : Giv w0 a m cap fv l i n ak p E U) (hst : St w0 a m cap fv v ts w) (hl : ts.length + (body E U n p).length ≤ 1048576) :
    Calls Tryz.prog 313 #[.pointer (some ⟨w0.heap.size, 0, none⟩), .agg #[.int .i64 n.k, .int .i64 n.op, .string n.s, .string n.t, .slice ak n.kids.length ck], .agg #[.int .i64 p.l, .bool p.d, .bool p.i, .bool p.g, .bool p.s]] w (Put w0 a m cap fv v ts (body E U n p) w) := by
  obtain ⟨x0, s0, g0⟩ := Fm.start hst n ak ck p
  obtain ⟨c0, c1, c2, c3, c4, d0, d1, d2, d3, d4⟩ := x0.c
  have X0 := Lib.hid x0
  have S0 := Lib.hid s0
  have G0 := Lib.hid g0
  have HV := Lib.hid hv
  have HK := Lib.hid (show n.kids.length = 1 from hv.good.one (.inl hc))
  rw [body_6 hc] at hl ⊢
  clear x0 s0 g0 hv hst hc
  try simp only [List.length_append, List.length_cons, List.length_nil] at hl
  have L0 := Lib.hid (show (ts).length + ([tok 68]).length ≤ 1048576 by (try simp only [List.length_append, List.length_cons, List.length_nil]); omega)
  have L1 := Lib.hid (show (ts ++ [tok 68]).length + (E (kd n 0) (kp n 0 p)).length ≤ 1048576 by (try simp only [List.length_append, List.length_cons, List.length_nil]); omega)
  clear hl
  go_enter Tryz.func313, Tryz.ntmps313
  go_wp2_with fail
  refine (symbol_any HV.out.held 68 _ (by have := L0.out; omega) S0.out).mono ?_
  rintro e w1 ⟨rfl, v1, s1, g1⟩
  have X1 := Lib.hid (X0.out.on g1)
  have S1 := Lib.hid s1
  have G1 := Lib.hid (G0.out.trans g1)
  clear c0 c1 c2 c3 c4 d0 d1 d2 d3 d4 s1 g1
  obtain ⟨c0, c1, c2, c3, c4, d0, d1, d2, d3, d4⟩ := X1.out.c
  go_wp2_with fail
  refine (kid_lit (F := E) n ak ck p 0 0 rfl (by have := HK.out; omega) _ HV.out.pos (HV.out.kp (by have := HK.out; omega)) HV.out.len (HV.out.kd (by have := HK.out; omega)) HV.out.row (HV.out.e 0 (by have := HK.out; omega)) S1.out L1.out).mono ?_
  rintro e w2 ⟨rfl, v2, s2, g2⟩
  have X2 := Lib.hid (X1.out.on g2)
  have S2 := Lib.hid s2
  have G2 := Lib.hid (G1.out.trans g2)
  clear c0 c1 c2 c3 c4 d0 d1 d2 d3 d4 s2 g2
  go_wp2
  go_end0
  refine ⟨rfl, v2, ?_, G2.out⟩
  have := S2.out
  first | exact this | simpa only [List.append_assoc, List.cons_append, List.nil_append, nam] using this

set_option maxHeartbeats 1600000 in
theorem m_call {w0 : World} {a : Option Addr} {m cap : Nat} {fv : Value} {l : List Nd} {i : Nat} {E U : Nat → Ps → List Tk} {v : Value} {ts : List Tk} (n : Nd) (ak : Option Addr) (ck : Nat) (p : Ps) (w : World) (hc : n.k = 7) (hv : Giv w0 a m cap fv l i n ak p E U) (hst : St w0 a m cap fv v ts w) (hl : ts.length + (body E U n p).length ≤ 1048576) :
    Calls Tryz.prog 314 #[.pointer (some ⟨w0.heap.size, 0, none⟩), .agg #[.int .i64 n.k, .int .i64 n.op, .string n.s, .string n.t, .slice ak n.kids.length ck], .agg #[.int .i64 p.l, .bool p.d, .bool p.i, .bool p.g, .bool p.s]] w (Put w0 a m cap fv v ts (body E U n p) w) := by
  obtain ⟨x0, s0, g0⟩ := Fm.start hst n ak ck p
  obtain ⟨c0, c1, c2, c3, c4, d0, d1, d2, d3, d4⟩ := x0.c
  have X0 := Lib.hid x0
  have S0 := Lib.hid s0
  have G0 := Lib.hid g0
  have HV := Lib.hid hv
  rw [body_7 hc] at hl ⊢
  clear x0 s0 g0 hv hst hc
  try simp only [List.length_append, List.length_cons, List.length_nil] at hl
  have L0 := Lib.hid (show (ts).length + ([nam 7 n.s]).length ≤ 1048576 by (try simp only [List.length_append, List.length_cons, List.length_nil]); omega)
  have L1 := Lib.hid (show (ts ++ [nam 7 n.s]).length + (brack E n 32 33).length ≤ 1048576 by (try simp only [List.length_append, List.length_cons, List.length_nil]); omega)
  clear hl
  go_enter Tryz.func314, Tryz.ntmps314
  go_wp2_with fail
  refine (add_any 7 n.s _ (by have := L0.out; omega) S0.out).mono ?_
  rintro e w1 ⟨rfl, v1, s1, g1⟩
  have X1 := Lib.hid (X0.out.on g1)
  have S1 := Lib.hid s1
  have G1 := Lib.hid (G0.out.trans g1)
  clear c0 c1 c2 c3 c4 d0 d1 d2 d3 d4 s1 g1
  obtain ⟨c0, c1, c2, c3, c4, d0, d1, d2, d3, d4⟩ := X1.out.c
  go_wp2_with fail
  refine (list_any (E := E) n ak ck 32 33 _ HV.out.held HV.out.len (fun K hK => HV.out.kd hK) HV.out.row HV.out.e S1.out L1.out).mono ?_
  rintro e w2 ⟨rfl, v2, s2, g2⟩
  have X2 := Lib.hid (X1.out.on g2)
  have S2 := Lib.hid s2
  have G2 := Lib.hid (G1.out.trans g2)
  clear c0 c1 c2 c3 c4 d0 d1 d2 d3 d4 s2 g2
  go_wp2
  go_end0
  refine ⟨rfl, v2, ?_, G2.out⟩
  have := S2.out
  first | exact this | simpa only [List.append_assoc, List.cons_append, List.nil_append, nam] using this

set_option maxHeartbeats 1600000 in
theorem m_builtin {w0 : World} {a : Option Addr} {m cap : Nat} {fv : Value} {l : List Nd} {i : Nat} {E U : Nat → Ps → List Tk} {v : Value} {ts : List Tk} (n : Nd) (ak : Option Addr) (ck : Nat) (p : Ps) (w : World) (hc : n.k = 8) (hv : Giv w0 a m cap fv l i n ak p E U) (hst : St w0 a m cap fv v ts w) (hl : ts.length + (body E U n p).length ≤ 1048576) :
    Calls Tryz.prog 315 #[.pointer (some ⟨w0.heap.size, 0, none⟩), .agg #[.int .i64 n.k, .int .i64 n.op, .string n.s, .string n.t, .slice ak n.kids.length ck], .agg #[.int .i64 p.l, .bool p.d, .bool p.i, .bool p.g, .bool p.s]] w (Put w0 a m cap fv v ts (body E U n p) w) := by
  obtain ⟨x0, s0, g0⟩ := Fm.start hst n ak ck p
  obtain ⟨c0, c1, c2, c3, c4, d0, d1, d2, d3, d4⟩ := x0.c
  have X0 := Lib.hid x0
  have S0 := Lib.hid s0
  have G0 := Lib.hid g0
  have HV := Lib.hid hv
  rw [body_8 hc] at hl ⊢
  clear x0 s0 g0 hv hst hc
  try simp only [List.length_append, List.length_cons, List.length_nil] at hl
  have L0 := Lib.hid (show (ts).length + ([nam 8 n.s]).length ≤ 1048576 by (try simp only [List.length_append, List.length_cons, List.length_nil]); omega)
  have L1 := Lib.hid (show (ts ++ [nam 8 n.s]).length + (brack E n 32 33).length ≤ 1048576 by (try simp only [List.length_append, List.length_cons, List.length_nil]); omega)
  clear hl
  go_enter Tryz.func315, Tryz.ntmps315
  go_wp2_with fail
  refine (add_any 8 n.s _ (by have := L0.out; omega) S0.out).mono ?_
  rintro e w1 ⟨rfl, v1, s1, g1⟩
  have X1 := Lib.hid (X0.out.on g1)
  have S1 := Lib.hid s1
  have G1 := Lib.hid (G0.out.trans g1)
  clear c0 c1 c2 c3 c4 d0 d1 d2 d3 d4 s1 g1
  obtain ⟨c0, c1, c2, c3, c4, d0, d1, d2, d3, d4⟩ := X1.out.c
  go_wp2_with fail
  refine (list_any (E := E) n ak ck 32 33 _ HV.out.held HV.out.len (fun K hK => HV.out.kd hK) HV.out.row HV.out.e S1.out L1.out).mono ?_
  rintro e w2 ⟨rfl, v2, s2, g2⟩
  have X2 := Lib.hid (X1.out.on g2)
  have S2 := Lib.hid s2
  have G2 := Lib.hid (G1.out.trans g2)
  clear c0 c1 c2 c3 c4 d0 d1 d2 d3 d4 s2 g2
  go_wp2
  go_end0
  refine ⟨rfl, v2, ?_, G2.out⟩
  have := S2.out
  first | exact this | simpa only [List.append_assoc, List.cons_append, List.nil_append, nam] using this

set_option maxHeartbeats 1600000 in
theorem m_pre {w0 : World} {a : Option Addr} {m cap : Nat} {fv : Value} {l : List Nd} {i : Nat} {E U : Nat → Ps → List Tk} {v : Value} {ts : List Tk} (n : Nd) (ak : Option Addr) (ck : Nat) (p : Ps) (w : World) (hc : n.k = 9) (hv : Giv w0 a m cap fv l i n ak p E U) (hst : St w0 a m cap fv v ts w) (hl : ts.length + (body E U n p).length ≤ 1048576) :
    Calls Tryz.prog 316 #[.pointer (some ⟨w0.heap.size, 0, none⟩), .agg #[.int .i64 n.k, .int .i64 n.op, .string n.s, .string n.t, .slice ak n.kids.length ck], .agg #[.int .i64 p.l, .bool p.d, .bool p.i, .bool p.g, .bool p.s]] w (Put w0 a m cap fv v ts (body E U n p) w) := by
  obtain ⟨x0, s0, g0⟩ := Fm.start hst n ak ck p
  obtain ⟨c0, c1, c2, c3, c4, d0, d1, d2, d3, d4⟩ := x0.c
  have X0 := Lib.hid x0
  have S0 := Lib.hid s0
  have G0 := Lib.hid g0
  have HV := Lib.hid hv
  have HK := Lib.hid (show n.kids.length = 1 from hv.good.one (.inr (.inl hc)))
  rw [body_9 hc] at hl ⊢
  clear x0 s0 g0 hv hst hc
  try simp only [List.length_append, List.length_cons, List.length_nil] at hl
  have L0 := Lib.hid (show (ts).length + ([tok n.op]).length ≤ 1048576 by (try simp only [List.length_append, List.length_cons, List.length_nil]); omega)
  have L1 := Lib.hid (show (ts ++ [tok n.op]).length + (U (kd n 0) (kp n 0 p)).length ≤ 1048576 by (try simp only [List.length_append, List.length_cons, List.length_nil]); omega)
  clear hl
  go_enter Tryz.func316, Tryz.ntmps316
  go_wp2_with fail
  refine (symbol_any HV.out.held n.op _ (by have := L0.out; omega) S0.out).mono ?_
  rintro e w1 ⟨rfl, v1, s1, g1⟩
  have X1 := Lib.hid (X0.out.on g1)
  have S1 := Lib.hid s1
  have G1 := Lib.hid (G0.out.trans g1)
  clear c0 c1 c2 c3 c4 d0 d1 d2 d3 d4 s1 g1
  obtain ⟨c0, c1, c2, c3, c4, d0, d1, d2, d3, d4⟩ := X1.out.c
  go_wp2_with fail
  refine (target_any (F := U) n ak ck p (by have := HK.out; omega) _ HV.out.pos (HV.out.kp (K := 0) (by have := HK.out; omega)) HV.out.len (HV.out.kd (by have := HK.out; omega)) HV.out.row (HV.out.u (by have := HK.out; omega)) S1.out L1.out).mono ?_
  rintro e w2 ⟨rfl, v2, s2, g2⟩
  have X2 := Lib.hid (X1.out.on g2)
  have S2 := Lib.hid s2
  have G2 := Lib.hid (G1.out.trans g2)
  clear c0 c1 c2 c3 c4 d0 d1 d2 d3 d4 s2 g2
  go_wp2
  go_end0
  refine ⟨rfl, v2, ?_, G2.out⟩
  have := S2.out
  first | exact this | simpa only [List.append_assoc, List.cons_append, List.nil_append, nam] using this

set_option maxHeartbeats 1600000 in
theorem m_post {w0 : World} {a : Option Addr} {m cap : Nat} {fv : Value} {l : List Nd} {i : Nat} {E U : Nat → Ps → List Tk} {v : Value} {ts : List Tk} (n : Nd) (ak : Option Addr) (ck : Nat) (p : Ps) (w : World) (hc : n.k = 10) (hv : Giv w0 a m cap fv l i n ak p E U) (hst : St w0 a m cap fv v ts w) (hl : ts.length + (body E U n p).length ≤ 1048576) :
    Calls Tryz.prog 317 #[.pointer (some ⟨w0.heap.size, 0, none⟩), .agg #[.int .i64 n.k, .int .i64 n.op, .string n.s, .string n.t, .slice ak n.kids.length ck], .agg #[.int .i64 p.l, .bool p.d, .bool p.i, .bool p.g, .bool p.s]] w (Put w0 a m cap fv v ts (body E U n p) w) := by
  obtain ⟨x0, s0, g0⟩ := Fm.start hst n ak ck p
  obtain ⟨c0, c1, c2, c3, c4, d0, d1, d2, d3, d4⟩ := x0.c
  have X0 := Lib.hid x0
  have S0 := Lib.hid s0
  have G0 := Lib.hid g0
  have HV := Lib.hid hv
  have HK := Lib.hid (show n.kids.length = 1 from hv.good.one (.inr (.inr (.inl hc))))
  rw [body_10 hc] at hl ⊢
  clear x0 s0 g0 hv hst hc
  try simp only [List.length_append, List.length_cons, List.length_nil] at hl
  have L0 := Lib.hid (show (ts).length + (U (kd n 0) (kp n 0 p)).length ≤ 1048576 by (try simp only [List.length_append, List.length_cons, List.length_nil]); omega)
  have L1 := Lib.hid (show (ts ++ U (kd n 0) (kp n 0 p)).length + ([tok n.op]).length ≤ 1048576 by (try simp only [List.length_append, List.length_cons, List.length_nil]); omega)
  clear hl
  go_enter Tryz.func317, Tryz.ntmps317
  go_wp2_with fail
  refine (target_any (F := U) n ak ck p (by have := HK.out; omega) _ HV.out.pos (HV.out.kp (K := 0) (by have := HK.out; omega)) HV.out.len (HV.out.kd (by have := HK.out; omega)) HV.out.row (HV.out.u (by have := HK.out; omega)) S0.out L0.out).mono ?_
  rintro e w1 ⟨rfl, v1, s1, g1⟩
  have X1 := Lib.hid (X0.out.on g1)
  have S1 := Lib.hid s1
  have G1 := Lib.hid (G0.out.trans g1)
  clear c0 c1 c2 c3 c4 d0 d1 d2 d3 d4 s1 g1
  obtain ⟨c0, c1, c2, c3, c4, d0, d1, d2, d3, d4⟩ := X1.out.c
  go_wp2_with fail
  refine (symbol_any HV.out.held n.op _ (by have := L1.out; omega) S1.out).mono ?_
  rintro e w2 ⟨rfl, v2, s2, g2⟩
  have X2 := Lib.hid (X1.out.on g2)
  have S2 := Lib.hid s2
  have G2 := Lib.hid (G1.out.trans g2)
  clear c0 c1 c2 c3 c4 d0 d1 d2 d3 d4 s2 g2
  go_wp2
  go_end0
  refine ⟨rfl, v2, ?_, G2.out⟩
  have := S2.out
  first | exact this | simpa only [List.append_assoc, List.cons_append, List.nil_append, nam] using this

set_option maxHeartbeats 1600000 in
theorem m_unary {w0 : World} {a : Option Addr} {m cap : Nat} {fv : Value} {l : List Nd} {i : Nat} {E U : Nat → Ps → List Tk} {v : Value} {ts : List Tk} (n : Nd) (ak : Option Addr) (ck : Nat) (p : Ps) (w : World) (hc : n.k = 11) (hv : Giv w0 a m cap fv l i n ak p E U) (hst : St w0 a m cap fv v ts w) (hl : ts.length + (body E U n p).length ≤ 1048576) :
    Calls Tryz.prog 318 #[.pointer (some ⟨w0.heap.size, 0, none⟩), .agg #[.int .i64 n.k, .int .i64 n.op, .string n.s, .string n.t, .slice ak n.kids.length ck], .agg #[.int .i64 p.l, .bool p.d, .bool p.i, .bool p.g, .bool p.s]] w (Put w0 a m cap fv v ts (body E U n p) w) := by
  obtain ⟨x0, s0, g0⟩ := Fm.start hst n ak ck p
  obtain ⟨c0, c1, c2, c3, c4, d0, d1, d2, d3, d4⟩ := x0.c
  have X0 := Lib.hid x0
  have S0 := Lib.hid s0
  have G0 := Lib.hid g0
  have HV := Lib.hid hv
  have HK := Lib.hid (show n.kids.length = 1 from hv.good.one (.inr (.inr (.inr hc))))
  rw [body_11 hc] at hl ⊢
  clear x0 s0 g0 hv hst hc
  try simp only [List.length_append, List.length_cons, List.length_nil] at hl
  have L0 := Lib.hid (show (ts).length + ([tok n.op]).length ≤ 1048576 by (try simp only [List.length_append, List.length_cons, List.length_nil]); omega)
  have L1 := Lib.hid (show (ts ++ [tok n.op]).length + (E (kd n 0) (kp n 0 p)).length ≤ 1048576 by (try simp only [List.length_append, List.length_cons, List.length_nil]); omega)
  clear hl
  go_enter Tryz.func318, Tryz.ntmps318
  go_wp2_with fail
  refine (symbol_any HV.out.held n.op _ (by have := L0.out; omega) S0.out).mono ?_
  rintro e w1 ⟨rfl, v1, s1, g1⟩
  have X1 := Lib.hid (X0.out.on g1)
  have S1 := Lib.hid s1
  have G1 := Lib.hid (G0.out.trans g1)
  clear c0 c1 c2 c3 c4 d0 d1 d2 d3 d4 s1 g1
  obtain ⟨c0, c1, c2, c3, c4, d0, d1, d2, d3, d4⟩ := X1.out.c
  go_wp2_with fail
  refine (kid_lit (F := E) n ak ck p 0 0 rfl (by have := HK.out; omega) _ HV.out.pos (HV.out.kp (by have := HK.out; omega)) HV.out.len (HV.out.kd (by have := HK.out; omega)) HV.out.row (HV.out.e 0 (by have := HK.out; omega)) S1.out L1.out).mono ?_
  rintro e w2 ⟨rfl, v2, s2, g2⟩
  have X2 := Lib.hid (X1.out.on g2)
  have S2 := Lib.hid s2
  have G2 := Lib.hid (G1.out.trans g2)
  clear c0 c1 c2 c3 c4 d0 d1 d2 d3 d4 s2 g2
  go_wp2
  go_end0
  refine ⟨rfl, v2, ?_, G2.out⟩
  have := S2.out
  first | exact this | simpa only [List.append_assoc, List.cons_append, List.nil_append, nam] using this

set_option maxHeartbeats 1600000 in
theorem m_binary {w0 : World} {a : Option Addr} {m cap : Nat} {fv : Value} {l : List Nd} {i : Nat} {E U : Nat → Ps → List Tk} {v : Value} {ts : List Tk} (n : Nd) (ak : Option Addr) (ck : Nat) (p : Ps) (w : World) (hc : n.k = 12) (hv : Giv w0 a m cap fv l i n ak p E U) (hst : St w0 a m cap fv v ts w) (hl : ts.length + (body E U n p).length ≤ 1048576) :
    Calls Tryz.prog 319 #[.pointer (some ⟨w0.heap.size, 0, none⟩), .agg #[.int .i64 n.k, .int .i64 n.op, .string n.s, .string n.t, .slice ak n.kids.length ck], .agg #[.int .i64 p.l, .bool p.d, .bool p.i, .bool p.g, .bool p.s]] w (Put w0 a m cap fv v ts (body E U n p) w) := by
  obtain ⟨x0, s0, g0⟩ := Fm.start hst n ak ck p
  obtain ⟨c0, c1, c2, c3, c4, d0, d1, d2, d3, d4⟩ := x0.c
  have X0 := Lib.hid x0
  have S0 := Lib.hid s0
  have G0 := Lib.hid g0
  have HV := Lib.hid hv
  have HK := Lib.hid (show n.kids.length = 2 from hv.good.two (.inl hc))
  rw [body_12 hc] at hl ⊢
  clear x0 s0 g0 hv hst hc
  by_cases hq : n.op = 99
  · rw [if_pos hq] at hl ⊢
    obtain ⟨q1, q2⟩ := rt.eq_facts hq
    try simp only [List.length_append, List.length_cons, List.length_nil] at hl
    have L0 := Lib.hid (show (ts).length + (E (kd n 0) (kp n 0 p)).length ≤ 1048576 by (try simp only [List.length_append, List.length_cons, List.length_nil]); omega)
    have L1 := Lib.hid (show (ts ++ E (kd n 0) (kp n 0 p)).length + (E (kd n 1) (kp n 1 p)).length ≤ 1048576 by (try simp only [List.length_append, List.length_cons, List.length_nil]); omega)
    clear hl hq
    go_enter Tryz.func319, Tryz.ntmps319
    go_wp2_with fail
    refine (kid_lit (F := E) n ak ck p 0 0 rfl (by have := HK.out; omega) _ HV.out.pos (HV.out.kp (by have := HK.out; omega)) HV.out.len (HV.out.kd (by have := HK.out; omega)) HV.out.row (HV.out.e 0 (by have := HK.out; omega)) S0.out L0.out).mono ?_
    rintro e w1 ⟨rfl, v1, s1, g1⟩
    have X1 := Lib.hid (X0.out.on g1)
    have S1 := Lib.hid s1
    have G1 := Lib.hid (G0.out.trans g1)
    clear c0 c1 c2 c3 c4 d0 d1 d2 d3 d4 s1 g1
    obtain ⟨c0, c1, c2, c3, c4, d0, d1, d2, d3, d4⟩ := X1.out.c
    go_wp2_with fail
    refine (kid_lit (F := E) n ak ck p 1 1 rfl (by have := HK.out; omega) _ HV.out.pos (HV.out.kp (by have := HK.out; omega)) HV.out.len (HV.out.kd (by have := HK.out; omega)) HV.out.row (HV.out.e 1 (by have := HK.out; omega)) S1.out L1.out).mono ?_
    rintro e w2 ⟨rfl, v2, s2, g2⟩
    have X2 := Lib.hid (X1.out.on g2)
    have S2 := Lib.hid s2
    have G2 := Lib.hid (G1.out.trans g2)
    clear c0 c1 c2 c3 c4 d0 d1 d2 d3 d4 s2 g2
    go_wp2
    go_end0
    refine ⟨rfl, v2, ?_, G2.out⟩
    have := S2.out
    first | exact this | simpa only [List.append_assoc, List.cons_append, List.nil_append, nam] using this
  · rw [if_neg hq] at hl ⊢
    obtain ⟨q1, q2⟩ := rt.ne_facts hq
    try simp only [List.length_append, List.length_cons, List.length_nil] at hl
    have L0 := Lib.hid (show (ts).length + (E (kd n 0) (kp n 0 p)).length ≤ 1048576 by (try simp only [List.length_append, List.length_cons, List.length_nil]); omega)
    have L1 := Lib.hid (show (ts ++ E (kd n 0) (kp n 0 p)).length + ([tok n.op]).length ≤ 1048576 by (try simp only [List.length_append, List.length_cons, List.length_nil]); omega)
    have L2 := Lib.hid (show (ts ++ E (kd n 0) (kp n 0 p) ++ [tok n.op]).length + (E (kd n 1) (kp n 1 p)).length ≤ 1048576 by (try simp only [List.length_append, List.length_cons, List.length_nil]); omega)
    clear hl hq
    go_enter Tryz.func319, Tryz.ntmps319
    go_wp2_with fail
    refine (kid_lit (F := E) n ak ck p 0 0 rfl (by have := HK.out; omega) _ HV.out.pos (HV.out.kp (by have := HK.out; omega)) HV.out.len (HV.out.kd (by have := HK.out; omega)) HV.out.row (HV.out.e 0 (by have := HK.out; omega)) S0.out L0.out).mono ?_
    rintro e w1 ⟨rfl, v1, s1, g1⟩
    have X1 := Lib.hid (X0.out.on g1)
    have S1 := Lib.hid s1
    have G1 := Lib.hid (G0.out.trans g1)
    clear c0 c1 c2 c3 c4 d0 d1 d2 d3 d4 s1 g1
    obtain ⟨c0, c1, c2, c3, c4, d0, d1, d2, d3, d4⟩ := X1.out.c
    go_wp2_with fail
    refine (symbol_any HV.out.held n.op _ (by have := L1.out; omega) S1.out).mono ?_
    rintro e w2 ⟨rfl, v2, s2, g2⟩
    have X2 := Lib.hid (X1.out.on g2)
    have S2 := Lib.hid s2
    have G2 := Lib.hid (G1.out.trans g2)
    clear c0 c1 c2 c3 c4 d0 d1 d2 d3 d4 s2 g2
    obtain ⟨c0, c1, c2, c3, c4, d0, d1, d2, d3, d4⟩ := X2.out.c
    go_wp2_with fail
    refine (kid_lit (F := E) n ak ck p 1 1 rfl (by have := HK.out; omega) _ HV.out.pos (HV.out.kp (by have := HK.out; omega)) HV.out.len (HV.out.kd (by have := HK.out; omega)) HV.out.row (HV.out.e 1 (by have := HK.out; omega)) S2.out L2.out).mono ?_
    rintro e w3 ⟨rfl, v3, s3, g3⟩
    have X3 := Lib.hid (X2.out.on g3)
    have S3 := Lib.hid s3
    have G3 := Lib.hid (G2.out.trans g3)
    clear c0 c1 c2 c3 c4 d0 d1 d2 d3 d4 s3 g3
    go_wp2
    go_end0
    refine ⟨rfl, v3, ?_, G3.out⟩
    have := S3.out
    first | exact this | simpa only [List.append_assoc, List.cons_append, List.nil_append, nam] using this

set_option maxHeartbeats 1600000 in
theorem m_in {w0 : World} {a : Option Addr} {m cap : Nat} {fv : Value} {l : List Nd} {i : Nat} {E U : Nat → Ps → List Tk} {v : Value} {ts : List Tk} (n : Nd) (ak : Option Addr) (ck : Nat) (p : Ps) (w : World) (hc : n.k = 13) (hv : Giv w0 a m cap fv l i n ak p E U) (hst : St w0 a m cap fv v ts w) (hl : ts.length + (body E U n p).length ≤ 1048576) :
    Calls Tryz.prog 320 #[.pointer (some ⟨w0.heap.size, 0, none⟩), .agg #[.int .i64 n.k, .int .i64 n.op, .string n.s, .string n.t, .slice ak n.kids.length ck], .agg #[.int .i64 p.l, .bool p.d, .bool p.i, .bool p.g, .bool p.s]] w (Put w0 a m cap fv v ts (body E U n p) w) := by
  obtain ⟨x0, s0, g0⟩ := Fm.start hst n ak ck p
  obtain ⟨c0, c1, c2, c3, c4, d0, d1, d2, d3, d4⟩ := x0.c
  have X0 := Lib.hid x0
  have S0 := Lib.hid s0
  have G0 := Lib.hid g0
  have HV := Lib.hid hv
  have HK := Lib.hid (hv.good.least (.inr hc))
  rw [body_13 hc] at hl ⊢
  clear x0 s0 g0 hv hst hc
  by_cases hq : 1 < n.kids.length
  · rw [if_pos hq] at hl ⊢
    have q1 : (1 : Int) < (n.kids.length : Int) := by omega
    have q3 : n.kids.length ≤ 1048576 := HV.out.len
    try simp only [List.length_append, List.length_cons, List.length_nil] at hl
    have L0 := Lib.hid (show (ts).length + (brack E n 32 33).length ≤ 1048576 by (try simp only [List.length_append, List.length_cons, List.length_nil]); omega)
    have L1 := Lib.hid (show (ts ++ brack E n 32 33).length + ([tok 24]).length ≤ 1048576 by (try simp only [List.length_append, List.length_cons, List.length_nil]); omega)
    have L2 := Lib.hid (show (ts ++ brack E n 32 33 ++ [tok 24]).length + ([nam 6 n.s]).length ≤ 1048576 by (try simp only [List.length_append, List.length_cons, List.length_nil]); omega)
    clear hl hq
    go_enter Tryz.func320, Tryz.ntmps320
    go_wp2_with fail
    refine (list_any (E := E) n ak ck 32 33 _ HV.out.held HV.out.len (fun K hK => HV.out.kd hK) HV.out.row HV.out.e S0.out L0.out).mono ?_
    rintro e w1 ⟨rfl, v1, s1, g1⟩
    have X1 := Lib.hid (X0.out.on g1)
    have S1 := Lib.hid s1
    have G1 := Lib.hid (G0.out.trans g1)
    clear c0 c1 c2 c3 c4 d0 d1 d2 d3 d4 s1 g1
    obtain ⟨c0, c1, c2, c3, c4, d0, d1, d2, d3, d4⟩ := X1.out.c
    go_wp2_with fail
    refine (symbol_any HV.out.held 24 _ (by have := L1.out; omega) S1.out).mono ?_
    rintro e w2 ⟨rfl, v2, s2, g2⟩
    have X2 := Lib.hid (X1.out.on g2)
    have S2 := Lib.hid s2
    have G2 := Lib.hid (G1.out.trans g2)
    clear c0 c1 c2 c3 c4 d0 d1 d2 d3 d4 s2 g2
    obtain ⟨c0, c1, c2, c3, c4, d0, d1, d2, d3, d4⟩ := X2.out.c
    go_wp2_with fail
    refine (add_any 6 n.s _ (by have := L2.out; omega) S2.out).mono ?_
    rintro e w3 ⟨rfl, v3, s3, g3⟩
    have X3 := Lib.hid (X2.out.on g3)
    have S3 := Lib.hid s3
    have G3 := Lib.hid (G2.out.trans g3)
    clear c0 c1 c2 c3 c4 d0 d1 d2 d3 d4 s3 g3
    go_wp2
    go_end0
    refine ⟨rfl, v3, ?_, G3.out⟩
    have := S3.out
    first | exact this | simpa only [List.append_assoc, List.cons_append, List.nil_append, nam] using this
  · rw [if_neg hq] at hl ⊢
    have q1 : ¬ (1 : Int) < (n.kids.length : Int) := by omega
    have q3 : n.kids.length ≤ 1048576 := HV.out.len
    try simp only [List.length_append, List.length_cons, List.length_nil] at hl
    have L0 := Lib.hid (show (ts).length + (E (kd n 0) (kp n 0 p)).length ≤ 1048576 by (try simp only [List.length_append, List.length_cons, List.length_nil]); omega)
    have L1 := Lib.hid (show (ts ++ E (kd n 0) (kp n 0 p)).length + ([tok 24]).length ≤ 1048576 by (try simp only [List.length_append, List.length_cons, List.length_nil]); omega)
    have L2 := Lib.hid (show (ts ++ E (kd n 0) (kp n 0 p) ++ [tok 24]).length + ([nam 6 n.s]).length ≤ 1048576 by (try simp only [List.length_append, List.length_cons, List.length_nil]); omega)
    clear hl hq
    go_enter Tryz.func320, Tryz.ntmps320
    go_wp2_with fail
    refine (kid_lit (F := E) n ak ck p 0 0 rfl (by have := HK.out; omega) _ HV.out.pos (HV.out.kp (by have := HK.out; omega)) HV.out.len (HV.out.kd (by have := HK.out; omega)) HV.out.row (HV.out.e 0 (by have := HK.out; omega)) S0.out L0.out).mono ?_
    rintro e w1 ⟨rfl, v1, s1, g1⟩
    have X1 := Lib.hid (X0.out.on g1)
    have S1 := Lib.hid s1
    have G1 := Lib.hid (G0.out.trans g1)
    clear c0 c1 c2 c3 c4 d0 d1 d2 d3 d4 s1 g1
    obtain ⟨c0, c1, c2, c3, c4, d0, d1, d2, d3, d4⟩ := X1.out.c
    go_wp2_with fail
    refine (symbol_any HV.out.held 24 _ (by have := L1.out; omega) S1.out).mono ?_
    rintro e w2 ⟨rfl, v2, s2, g2⟩
    have X2 := Lib.hid (X1.out.on g2)
    have S2 := Lib.hid s2
    have G2 := Lib.hid (G1.out.trans g2)
    clear c0 c1 c2 c3 c4 d0 d1 d2 d3 d4 s2 g2
    obtain ⟨c0, c1, c2, c3, c4, d0, d1, d2, d3, d4⟩ := X2.out.c
    go_wp2_with fail
    refine (add_any 6 n.s _ (by have := L2.out; omega) S2.out).mono ?_
    rintro e w3 ⟨rfl, v3, s3, g3⟩
    have X3 := Lib.hid (X2.out.on g3)
    have S3 := Lib.hid s3
    have G3 := Lib.hid (G2.out.trans g3)
    clear c0 c1 c2 c3 c4 d0 d1 d2 d3 d4 s3 g3
    go_wp2
    go_end0
    refine ⟨rfl, v3, ?_, G3.out⟩
    have := S3.out
    first | exact this | simpa only [List.append_assoc, List.cons_append, List.nil_append, nam] using this

set_option maxHeartbeats 1600000 in
theorem m_cond {w0 : World} {a : Option Addr} {m cap : Nat} {fv : Value} {l : List Nd} {i : Nat} {E U : Nat → Ps → List Tk} {v : Value} {ts : List Tk} (n : Nd) (ak : Option Addr) (ck : Nat) (p : Ps) (w : World) (hc : n.k = 14) (hv : Giv w0 a m cap fv l i n ak p E U) (hst : St w0 a m cap fv v ts w) (hl : ts.length + (body E U n p).length ≤ 1048576) :
    Calls Tryz.prog 321 #[.pointer (some ⟨w0.heap.size, 0, none⟩), .agg #[.int .i64 n.k, .int .i64 n.op, .string n.s, .string n.t, .slice ak n.kids.length ck], .agg #[.int .i64 p.l, .bool p.d, .bool p.i, .bool p.g, .bool p.s]] w (Put w0 a m cap fv v ts (body E U n p) w) := by
  obtain ⟨x0, s0, g0⟩ := Fm.start hst n ak ck p
  obtain ⟨c0, c1, c2, c3, c4, d0, d1, d2, d3, d4⟩ := x0.c
  have X0 := Lib.hid x0
  have S0 := Lib.hid s0
  have G0 := Lib.hid g0
  have HV := Lib.hid hv
  have HK := Lib.hid (show n.kids.length = 3 from hv.good.three hc)
  rw [body_14 hc] at hl ⊢
  clear x0 s0 g0 hv hst hc
  try simp only [List.length_append, List.length_cons, List.length_nil] at hl
  have L0 := Lib.hid (show (ts).length + (E (kd n 0) (kp n 0 p)).length ≤ 1048576 by (try simp only [List.length_append, List.length_cons, List.length_nil]); omega)
  have L1 := Lib.hid (show (ts ++ E (kd n 0) (kp n 0 p)).length + ([tok 65]).length ≤ 1048576 by (try simp only [List.length_append, List.length_cons, List.length_nil]); omega)
  have L2 := Lib.hid (show (ts ++ E (kd n 0) (kp n 0 p) ++ [tok 65]).length + (E (kd n 1) (kp n 1 p)).length ≤ 1048576 by (try simp only [List.length_append, List.length_cons, List.length_nil]); omega)
  have L3 := Lib.hid (show (ts ++ E (kd n 0) (kp n 0 p) ++ [tok 65] ++ E (kd n 1) (kp n 1 p)).length + ([tok 66]).length ≤ 1048576 by (try simp only [List.length_append, List.length_cons, List.length_nil]); omega)
  have L4 := Lib.hid (show (ts ++ E (kd n 0) (kp n 0 p) ++ [tok 65] ++ E (kd n 1) (kp n 1 p) ++ [tok 66]).length + (E (kd n 2) (kp n 2 p)).length ≤ 1048576 by (try simp only [List.length_append, List.length_cons, List.length_nil]); omega)
  clear hl
  go_enter Tryz.func321, Tryz.ntmps321
  go_wp2_with fail
  refine (kid_lit (F := E) n ak ck p 0 0 rfl (by have := HK.out; omega) _ HV.out.pos (HV.out.kp (by have := HK.out; omega)) HV.out.len (HV.out.kd (by have := HK.out; omega)) HV.out.row (HV.out.e 0 (by have := HK.out; omega)) S0.out L0.out).mono ?_
  rintro e w1 ⟨rfl, v1, s1, g1⟩
  have X1 := Lib.hid (X0.out.on g1)
  have S1 := Lib.hid s1
  have G1 := Lib.hid (G0.out.trans g1)
  clear c0 c1 c2 c3 c4 d0 d1 d2 d3 d4 s1 g1
  obtain ⟨c0, c1, c2, c3, c4, d0, d1, d2, d3, d4⟩ := X1.out.c
  go_wp2_with fail
  refine (symbol_any HV.out.held 65 _ (by have := L1.out; omega) S1.out).mono ?_
  rintro e w2 ⟨rfl, v2, s2, g2⟩
  have X2 := Lib.hid (X1.out.on g2)
  have S2 := Lib.hid s2
  have G2 := Lib.hid (G1.out.trans g2)
  clear c0 c1 c2 c3 c4 d0 d1 d2 d3 d4 s2 g2
  obtain ⟨c0, c1, c2, c3, c4, d0, d1, d2, d3, d4⟩ := X2.out.c
  go_wp2_with fail
  refine (kid_lit (F := E) n ak ck p 1 1 rfl (by have := HK.out; omega) _ HV.out.pos (HV.out.kp (by have := HK.out; omega)) HV.out.len (HV.out.kd (by have := HK.out; omega)) HV.out.row (HV.out.e 1 (by have := HK.out; omega)) S2.out L2.out).mono ?_
  rintro e w3 ⟨rfl, v3, s3, g3⟩
  have X3 := Lib.hid (X2.out.on g3)
  have S3 := Lib.hid s3
  have G3 := Lib.hid (G2.out.trans g3)
  clear c0 c1 c2 c3 c4 d0 d1 d2 d3 d4 s3 g3
  obtain ⟨c0, c1, c2, c3, c4, d0, d1, d2, d3, d4⟩ := X3.out.c
  go_wp2_with fail
  refine (symbol_any HV.out.held 66 _ (by have := L3.out; omega) S3.out).mono ?_
  rintro e w4 ⟨rfl, v4, s4, g4⟩
  have X4 := Lib.hid (X3.out.on g4)
  have S4 := Lib.hid s4
  have G4 := Lib.hid (G3.out.trans g4)
  clear c0 c1 c2 c3 c4 d0 d1 d2 d3 d4 s4 g4
  obtain ⟨c0, c1, c2, c3, c4, d0, d1, d2, d3, d4⟩ := X4.out.c
  go_wp2_with fail
  refine (kid_lit (F := E) n ak ck p 2 2 rfl (by have := HK.out; omega) _ HV.out.pos (HV.out.kp (by have := HK.out; omega)) HV.out.len (HV.out.kd (by have := HK.out; omega)) HV.out.row (HV.out.e 2 (by have := HK.out; omega)) S4.out L4.out).mono ?_
  rintro e w5 ⟨rfl, v5, s5, g5⟩
  have X5 := Lib.hid (X4.out.on g5)
  have S5 := Lib.hid s5
  have G5 := Lib.hid (G4.out.trans g5)
  clear c0 c1 c2 c3 c4 d0 d1 d2 d3 d4 s5 g5
  go_wp2
  go_end0
  refine ⟨rfl, v5, ?_, G5.out⟩
  have := S5.out
  first | exact this | simpa only [List.append_assoc, List.cons_append, List.nil_append, nam] using this

set_option maxHeartbeats 1600000 in
theorem m_assign {w0 : World} {a : Option Addr} {m cap : Nat} {fv : Value} {l : List Nd} {i : Nat} {E U : Nat → Ps → List Tk} {v : Value} {ts : List Tk} (n : Nd) (ak : Option Addr) (ck : Nat) (p : Ps) (w : World) (hc : n.k = 15) (hv : Giv w0 a m cap fv l i n ak p E U) (hst : St w0 a m cap fv v ts w) (hl : ts.length + (body E U n p).length ≤ 1048576) :
    Calls Tryz.prog 322 #[.pointer (some ⟨w0.heap.size, 0, none⟩), .agg #[.int .i64 n.k, .int .i64 n.op, .string n.s, .string n.t, .slice ak n.kids.length ck], .agg #[.int .i64 p.l, .bool p.d, .bool p.i, .bool p.g, .bool p.s]] w (Put w0 a m cap fv v ts (body E U n p) w) := by
  obtain ⟨x0, s0, g0⟩ := Fm.start hst n ak ck p
  obtain ⟨c0, c1, c2, c3, c4, d0, d1, d2, d3, d4⟩ := x0.c
  have X0 := Lib.hid x0
  have S0 := Lib.hid s0
  have G0 := Lib.hid g0
  have HV := Lib.hid hv
  have HK := Lib.hid (show n.kids.length = 2 from hv.good.two (.inr hc))
  rw [body_15 hc] at hl ⊢
  clear x0 s0 g0 hv hst hc
  try simp only [List.length_append, List.length_cons, List.length_nil] at hl
  have L0 := Lib.hid (show (ts).length + (U (kd n 0) (kp n 0 p)).length ≤ 1048576 by (try simp only [List.length_append, List.length_cons, List.length_nil]); omega)
  have L1 := Lib.hid (show (ts ++ U (kd n 0) (kp n 0 p)).length + ([tok n.op]).length ≤ 1048576 by (try simp only [List.length_append, List.length_cons, List.length_nil]); omega)
  have L2 := Lib.hid (show (ts ++ U (kd n 0) (kp n 0 p) ++ [tok n.op]).length + (E (kd n 1) (kp n 1 p)).length ≤ 1048576 by (try simp only [List.length_append, List.length_cons, List.length_nil]); omega)
  clear hl
  go_enter Tryz.func322, Tryz.ntmps322
  go_wp2_with fail
  refine (target_any (F := U) n ak ck p (by have := HK.out; omega) _ HV.out.pos (HV.out.kp (K := 0) (by have := HK.out; omega)) HV.out.len (HV.out.kd (by have := HK.out; omega)) HV.out.row (HV.out.u (by have := HK.out; omega)) S0.out L0.out).mono ?_
  rintro e w1 ⟨rfl, v1, s1, g1⟩
  have X1 := Lib.hid (X0.out.on g1)
  have S1 := Lib.hid s1
  have G1 := Lib.hid (G0.out.trans g1)
  clear c0 c1 c2 c3 c4 d0 d1 d2 d3 d4 s1 g1
  obtain ⟨c0, c1, c2, c3, c4, d0, d1, d2, d3, d4⟩ := X1.out.c
  go_wp2_with fail
  refine (symbol_any HV.out.held n.op _ (by have := L1.out; omega) S1.out).mono ?_
  rintro e w2 ⟨rfl, v2, s2, g2⟩
  have X2 := Lib.hid (X1.out.on g2)
  have S2 := Lib.hid s2
  have G2 := Lib.hid (G1.out.trans g2)
  clear c0 c1 c2 c3 c4 d0 d1 d2 d3 d4 s2 g2
  obtain ⟨c0, c1, c2, c3, c4, d0, d1, d2, d3, d4⟩ := X2.out.c
  go_wp2_with fail
  refine (kid_lit (F := E) n ak ck p 1 1 rfl (by have := HK.out; omega) _ HV.out.pos (HV.out.kp (by have := HK.out; omega)) HV.out.len (HV.out.kd (by have := HK.out; omega)) HV.out.row (HV.out.e 1 (by have := HK.out; omega)) S2.out L2.out).mono ?_
  rintro e w3 ⟨rfl, v3, s3, g3⟩
  have X3 := Lib.hid (X2.out.on g3)
  have S3 := Lib.hid s3
  have G3 := Lib.hid (G2.out.trans g3)
  clear c0 c1 c2 c3 c4 d0 d1 d2 d3 d4 s3 g3
  go_wp2
  go_end0
  refine ⟨rfl, v3, ?_, G3.out⟩
  have := S3.out
  first | exact this | simpa only [List.append_assoc, List.cons_append, List.nil_append, nam] using this
end Go.Proofs.YtiilpnoaocfjgaaGreatDoor.tw

namespace Go.Proofs.YtiilpnoaocfjgaaGreatDoor.tw
open Go.ChangeShapes Go.WideShapes Go.ChangeAt Go.RowKit
open tk (Tk)
open own
open nd (Nd Ints)
open ps (Ps posOk kidI top)
open spell (Held)
open et
set_option linter.unusedVariables false
set_option maxRecDepth 20000

/-- What is read in expr: the writer's box, a node, the position. -/
structure Ex (b bl o g : Nat) (a : Option Addr) (m cap : Nat) (fv v : Value) (n : Nd) (ak : Option Addr) (ck : Nat) (q : Ps) (w : World) : Prop where
  x0 : w.cell? ⟨b, 0, none⟩ = some (.slice a m cap)
  x1 : w.cell? ⟨b, 1, none⟩ = some fv
  x2 : w.cell? ⟨b, 2, none⟩ = some v
  y0 : w.cell? ⟨bl, o, none⟩ = some (.int .i64 n.k)
  y1 : w.cell? ⟨bl, o + 1, none⟩ = some (.int .i64 n.op)
  y2 : w.cell? ⟨bl, o + 2, none⟩ = some (.string n.s)
  y3 : w.cell? ⟨bl, o + 3, none⟩ = some (.string n.t)
  y4 : w.cell? ⟨bl, o + 4, none⟩ = some (.slice ak n.kids.length ck)
  z0 : w.cell? ⟨g, 0, none⟩ = some (.int .i64 q.l)
  z1 : w.cell? ⟨g, 1, none⟩ = some (.bool q.d)
  z2 : w.cell? ⟨g, 2, none⟩ = some (.bool q.i)
  z3 : w.cell? ⟨g, 3, none⟩ = some (.bool q.g)
  z4 : w.cell? ⟨g, 4, none⟩ = some (.bool q.s)
  lt : b < w.heap.size ∧ bl < w.heap.size ∧ g < w.heap.size

section
variable {b bl o g : Nat} {a : Option Addr} {m cap : Nat} {fv v : Value} {n : Nd} {ak : Option Addr} {ck : Nat} {q : Ps} {w w' : World}
theorem Ex.c (h : Ex b bl o g a m cap fv v n ak ck q w) : w.cell? ⟨b, 0, none⟩ = some (.slice a m cap) ∧ w.cell? ⟨b, 1, none⟩ = some fv ∧ w.cell? ⟨b, 2, none⟩ = some v ∧ w.cell? ⟨bl, o, none⟩ = some (.int .i64 n.k) ∧ w.cell? ⟨bl, o + 1, none⟩ = some (.int .i64 n.op) ∧ w.cell? ⟨bl, o + 2, none⟩ = some (.string n.s) ∧ w.cell? ⟨bl, o + 3, none⟩ = some (.string n.t) ∧ w.cell? ⟨bl, o + 4, none⟩ = some (.slice ak n.kids.length ck) ∧ w.cell? ⟨g, 0, none⟩ = some (.int .i64 q.l) ∧ w.cell? ⟨g, 1, none⟩ = some (.bool q.d) ∧ w.cell? ⟨g, 2, none⟩ = some (.bool q.i) ∧ w.cell? ⟨g, 3, none⟩ = some (.bool q.g) ∧ w.cell? ⟨g, 4, none⟩ = some (.bool q.s) :=
  ⟨h.x0, h.x1, h.x2, h.y0, h.y1, h.y2, h.y3, h.y4, h.z0, h.z1, h.z2, h.z3, h.z4⟩
theorem Ex.keep (h : Ex b bl o g a m cap fv v n ak ck q w) (hb : Below w.heap.size w w') : Ex b bl o g a m cap fv v n ak ck q w' :=
  ⟨(hb.cell (p := ⟨b, 0, none⟩) h.lt.1).trans h.x0, (hb.cell (p := ⟨b, 1, none⟩) h.lt.1).trans h.x1, (hb.cell (p := ⟨b, 2, none⟩) h.lt.1).trans h.x2,
    (hb.cell (p := ⟨bl, o, none⟩) h.lt.2.1).trans h.y0, (hb.cell (p := ⟨bl, o + 1, none⟩) h.lt.2.1).trans h.y1, (hb.cell (p := ⟨bl, o + 2, none⟩) h.lt.2.1).trans h.y2, (hb.cell (p := ⟨bl, o + 3, none⟩) h.lt.2.1).trans h.y3, (hb.cell (p := ⟨bl, o + 4, none⟩) h.lt.2.1).trans h.y4,
    (hb.cell (p := ⟨g, 0, none⟩) h.lt.2.2).trans h.z0, (hb.cell (p := ⟨g, 1, none⟩) h.lt.2.2).trans h.z1, (hb.cell (p := ⟨g, 2, none⟩) h.lt.2.2).trans h.z2, (hb.cell (p := ⟨g, 3, none⟩) h.lt.2.2).trans h.z3, (hb.cell (p := ⟨g, 4, none⟩) h.lt.2.2).trans h.z4,
    ⟨Nat.lt_of_lt_of_le h.lt.1 hb.size, Nat.lt_of_lt_of_le h.lt.2.1 hb.size, Nat.lt_of_lt_of_le h.lt.2.2 hb.size⟩⟩
theorem Ex.drew (h : Ex b bl o g a m cap fv v n ak ck q w) : Ex b bl o g a m cap fv v n ak ck q w.drew := h.keep ((Below.refl _ _).drew)
end
theorem Ex.start {w0 : World} {a : Option Addr} {m cap : Nat} {fv v : Value} {ts : List Tk} {w : World} (hst : St w0 a m cap fv v ts w) {bl o : Nat} {n : Nd} {ak : Option Addr} {ck : Nat} (h5 : nd.Five w0 bl o n ak ck) (hb : bl < w0.heap.size) (q : Ps) :
    Ex w0.heap.size bl o w.heap.size a m cap fv v n ak ck q (w.alloc (.cells #[.int .i64 q.l, .bool q.d, .bool q.i, .bool q.g, .bool q.s] 26)) := by
  obtain ⟨x0, x1, x2⟩ := (hst.alloc (.cells #[.int .i64 q.l, .bool q.d, .bool q.i, .bool q.g, .bool q.s] 26)).c
  obtain ⟨y0, y1, y2, y3, y4⟩ := h5.keep (hst.alloc (.cells #[.int .i64 q.l, .bool q.d, .bool q.i, .bool q.g, .bool q.s] 26)).bel hb
  have hn := heap_alloc_new w (.cells #[.int .i64 q.l, .bool q.d, .bool q.i, .bool q.g, .bool q.s] 26)
  have := hst.lt
  exact ⟨x0, x1, x2, y0, y1, y2, y3, y4, by rw [cell_of_row _ _ 0 _ _ _ hn]; rfl, by rw [cell_of_row _ _ 1 _ _ _ hn]; rfl, by rw [cell_of_row _ _ 2 _ _ _ hn]; rfl, by rw [cell_of_row _ _ 3 _ _ _ hn]; rfl, by rw [cell_of_row _ _ 4 _ _ _ hn]; rfl, by simp; omega⟩

set_option maxHeartbeats 1600000 in
theorem expr_mis {w0 : World} {a : Option Addr} {m cap : Nat} {l : List Nd} {U : Nat → Ps → List Tk} (i : Nat) (n : Nd) (hh : Held w0) (hm : m = l.length) (hmx : m ≤ 1048576) (hi : i < m) (hn : l.getD i default = n) (hc : nd.Lies w0.heap.size w0 a l)
    (hU : CallE 151 w0 a m cap (.func (.func 82) #[] #[]) i (U i)) : CallE 83 w0 a m cap (.func (.func 82) #[] #[]) i (par mis l U i) := by
  intro q hq v ts w hst hl
  have hil : i < l.length := hm ▸ hi
  rw [getD_at hil] at hn
  obtain ⟨bl, ol, rfl, hbl, hnode⟩ := nd.lies_at hc hil
  obtain ⟨ak, ck, h5, hik⟩ := hnode i hil
  rw [hn] at h5 hik
  have hpar : par mis l U i q = if mis n q = true then tok 32 :: (U i top ++ [tok 33]) else U i q := by unfold par; rw [getD_at hil, hn]
  rw [hpar] at hl ⊢
  have X0 := Ex.start hst h5 hbl q
  have HX := Lib.hid X0
  have HS := Lib.hid (hst.alloc (.cells #[.int .i64 q.l, .bool q.d, .bool q.i, .bool q.g, .bool q.s] 26))
  have HG := Lib.hid (show Gr w0.heap.size v v w (w.alloc (.cells #[.int .i64 q.l, .bool q.d, .bool q.i, .bool q.g, .bool q.s] 26)) from Gr.quiet ((Below.refl _ _).alloc (Nat.le_refl _) _))
  have Y0 := Lib.hid X0.drew.c
  have HU := Lib.hid hU
  have HH := Lib.hid hh
  have HQ := Lib.hid hq
  obtain ⟨C, hC⟩ : ∃ C, mis n q = C := ⟨_, rfl⟩
  rw [hC] at hl ⊢
  have HC := Lib.hid hC
  have HL := Lib.hid hl
  have hk1 : (0 : Int) ≤ (i : Int) := by omega
  have hk2 : (i : Int) < (m : Int) := by omega
  clear hU hh hst hl hC X0 h5 hik hnode hc hpar hn hm hi hil hq
  obtain ⟨W0, hW0⟩ : ∃ W, W = w.alloc (.cells #[.int .i64 q.l, .bool q.d, .bool q.i, .bool q.g, .bool q.s] 26) := ⟨_, rfl⟩
  cases C
  · have HL2 := Lib.hid (show ts.length + (U i q).length ≤ 1048576 from HL.out)
    go_enter Tryz.func83, Tryz.ntmps83
    go_wp2_with fail
    rw [← hW0] at HX HS HG Y0 ⊢
    clear hW0
    go_region_held3 (fun w' => w'.cell? ⟨w0.heap.size, 0, none⟩ = some (.slice (some ⟨bl, ol, none⟩) m cap) ∧ w'.cell? ⟨w0.heap.size, 1, none⟩ = some (.func (.func 82) #[] #[]) ∧ w'.cell? ⟨w0.heap.size, 2, none⟩ = some v ∧ w'.cell? ⟨bl, ol + i * 5, none⟩ = some (.int .i64 n.k) ∧ w'.cell? ⟨bl, ol + i * 5 + 1, none⟩ = some (.int .i64 n.op) ∧ w'.cell? ⟨bl, ol + i * 5 + 2, none⟩ = some (.string n.s) ∧ w'.cell? ⟨bl, ol + i * 5 + 3, none⟩ = some (.string n.t) ∧ w'.cell? ⟨bl, ol + i * 5 + 4, none⟩ = some (.slice ak n.kids.length ck) ∧ w'.cell? ⟨w.heap.size, 0, none⟩ = some (.int .i64 q.l) ∧ w'.cell? ⟨w.heap.size, 1, none⟩ = some (.bool q.d) ∧ w'.cell? ⟨w.heap.size, 2, none⟩ = some (.bool q.i) ∧ w'.cell? ⟨w.heap.size, 3, none⟩ = some (.bool q.g) ∧ w'.cell? ⟨w.heap.size, 4, none⟩ = some (.bool q.s))
      (first | with_reducible exact Y0.out | with_reducible exact X1.out.c)
      (first | (go_at_call 82; refine (misfits_any n ak ck q _).mono ?_; rw [HC.out]; rintro e w1 ⟨rfl, b1⟩; have X1 := Lib.hid (HX.out.keep (undrew b1)); have S1 := Lib.hid (HS.out.keep (undrew b1)); have G1 := Lib.hid (HG.out.trans (Gr.quiet (undrew b1))); clear b1))
    obtain ⟨-, -, -, -, -, -, -, -, p0, p1, p2, p3, p4⟩ := X1.out.c
    go_wp2_with (go_at_call 151; refine (HU.out q HQ.out _ _ _ S1.out HL2.out).mono ?_; rintro e w2 ⟨rfl, hput⟩; have HP := Lib.hid hput; clear hput)
    go_end0
    obtain ⟨v2, s2, g2⟩ := HP.out
    exact ⟨rfl, v2, s2, G1.out.trans g2⟩
  · have HL2 := Lib.hid (show ts.length + (tok 32 :: (U i top ++ [tok 33])).length ≤ 1048576 from HL.out)
    simp only [List.length_cons, List.length_append, List.length_nil] at HL2
    go_enter Tryz.func83, Tryz.ntmps83
    go_wp2_with fail
    rw [← hW0] at HX HS HG Y0 ⊢
    clear hW0
    go_region_held3 (fun w' => w'.cell? ⟨w0.heap.size, 0, none⟩ = some (.slice (some ⟨bl, ol, none⟩) m cap) ∧ w'.cell? ⟨w0.heap.size, 1, none⟩ = some (.func (.func 82) #[] #[]) ∧ w'.cell? ⟨w0.heap.size, 2, none⟩ = some v ∧ w'.cell? ⟨bl, ol + i * 5, none⟩ = some (.int .i64 n.k) ∧ w'.cell? ⟨bl, ol + i * 5 + 1, none⟩ = some (.int .i64 n.op) ∧ w'.cell? ⟨bl, ol + i * 5 + 2, none⟩ = some (.string n.s) ∧ w'.cell? ⟨bl, ol + i * 5 + 3, none⟩ = some (.string n.t) ∧ w'.cell? ⟨bl, ol + i * 5 + 4, none⟩ = some (.slice ak n.kids.length ck) ∧ w'.cell? ⟨w.heap.size, 0, none⟩ = some (.int .i64 q.l) ∧ w'.cell? ⟨w.heap.size, 1, none⟩ = some (.bool q.d) ∧ w'.cell? ⟨w.heap.size, 2, none⟩ = some (.bool q.i) ∧ w'.cell? ⟨w.heap.size, 3, none⟩ = some (.bool q.g) ∧ w'.cell? ⟨w.heap.size, 4, none⟩ = some (.bool q.s))
      (first | with_reducible exact Y0.out | with_reducible exact X1.out.c)
      (first | (go_at_call 82; refine (misfits_any n ak ck q _).mono ?_; rw [HC.out]; rintro e w1 ⟨rfl, b1⟩; have X1 := Lib.hid (HX.out.keep (undrew b1)); have S1 := Lib.hid (HS.out.keep (undrew b1)); have G1 := Lib.hid (HG.out.trans (Gr.quiet (undrew b1))); clear b1))
    have L1 := Lib.hid (show ts.length ≤ 1048576 by have := HL2.out; omega)
    have L2 := Lib.hid (show (ts ++ [tok 32]).length + (U i top).length ≤ 1048576 by have := HL2.out; simp only [List.length_cons, List.length_append, List.length_nil]; omega)
    have L3 := Lib.hid (show (ts ++ [tok 32] ++ U i top).length ≤ 1048576 by have := HL2.out; simp only [List.length_cons, List.length_append, List.length_nil]; omega)
    go_wp2_with fail
    refine (symbol_any HH.out 32 _ L1.out S1.out).mono ?_
    rintro e w2 ⟨rfl, v2, s2, g2⟩
    have S2 := Lib.hid s2
    have G2 := Lib.hid (G1.out.trans g2)
    clear s2 g2
    go_wp2_with fail
    refine (ps.impl_top _).mono ?_
    rintro e w3 ⟨rfl, b3⟩
    have S3 := Lib.hid (S2.out.keep b3)
    have G3 := Lib.hid (G2.out.trans (Gr.quiet b3))
    clear b3
    go_wp2_with fail
    refine (HU.out top top_ok _ _ _ S3.out L2.out).mono ?_
    rintro e w4 ⟨rfl, v4, s4, g4⟩
    have S4 := Lib.hid s4
    have G4 := Lib.hid (G3.out.trans g4)
    clear s4 g4
    go_wp2_with fail
    refine (symbol_any HH.out 33 _ L3.out S4.out).mono ?_
    rintro e w5 ⟨rfl, v5, s5, g5⟩
    have S5 := Lib.hid s5
    have G5 := Lib.hid (G4.out.trans g5)
    clear s5 g5
    go_wp2
    go_end0
    refine ⟨rfl, v5, ?_, G5.out⟩
    have := S5.out
    simpa only [List.append_assoc, List.cons_append, List.nil_append, if_pos] using this

set_option maxHeartbeats 1600000 in
theorem expr_full {w0 : World} {a : Option Addr} {m cap : Nat} {l : List Nd} {U : Nat → Ps → List Tk} (i : Nat) (n : Nd) (hh : Held w0) (hm : m = l.length) (hmx : m ≤ 1048576) (hi : i < m) (hn : l.getD i default = n) (hc : nd.Lies w0.heap.size w0 a l)
    (hU : CallE 151 w0 a m cap (.func (.func 87) #[] #[]) i (U i)) : CallE 83 w0 a m cap (.func (.func 87) #[] #[]) i (par full l U i) := by
  intro q hq v ts w hst hl
  have hil : i < l.length := hm ▸ hi
  rw [getD_at hil] at hn
  obtain ⟨bl, ol, rfl, hbl, hnode⟩ := nd.lies_at hc hil
  obtain ⟨ak, ck, h5, hik⟩ := hnode i hil
  rw [hn] at h5 hik
  have hpar : par full l U i q = if full n q = true then tok 32 :: (U i top ++ [tok 33]) else U i q := by unfold par; rw [getD_at hil, hn]
  rw [hpar] at hl ⊢
  have X0 := Ex.start hst h5 hbl q
  have HX := Lib.hid X0
  have HS := Lib.hid (hst.alloc (.cells #[.int .i64 q.l, .bool q.d, .bool q.i, .bool q.g, .bool q.s] 26))
  have HG := Lib.hid (show Gr w0.heap.size v v w (w.alloc (.cells #[.int .i64 q.l, .bool q.d, .bool q.i, .bool q.g, .bool q.s] 26)) from Gr.quiet ((Below.refl _ _).alloc (Nat.le_refl _) _))
  have Y0 := Lib.hid X0.drew.c
  have HU := Lib.hid hU
  have HH := Lib.hid hh
  have HQ := Lib.hid hq
  obtain ⟨C, hC⟩ : ∃ C, full n q = C := ⟨_, rfl⟩
  rw [hC] at hl ⊢
  have HC := Lib.hid hC
  have HL := Lib.hid hl
  have hk1 : (0 : Int) ≤ (i : Int) := by omega
  have hk2 : (i : Int) < (m : Int) := by omega
  clear hU hh hst hl hC X0 h5 hik hnode hc hpar hn hm hi hil hq
  obtain ⟨W0, hW0⟩ : ∃ W, W = w.alloc (.cells #[.int .i64 q.l, .bool q.d, .bool q.i, .bool q.g, .bool q.s] 26) := ⟨_, rfl⟩
  cases C
  · have HL2 := Lib.hid (show ts.length + (U i q).length ≤ 1048576 from HL.out)
    go_enter Tryz.func83, Tryz.ntmps83
    go_wp2_with fail
    rw [← hW0] at HX HS HG Y0 ⊢
    clear hW0
    go_region_held3 (fun w' => w'.cell? ⟨w0.heap.size, 0, none⟩ = some (.slice (some ⟨bl, ol, none⟩) m cap) ∧ w'.cell? ⟨w0.heap.size, 1, none⟩ = some (.func (.func 87) #[] #[]) ∧ w'.cell? ⟨w0.heap.size, 2, none⟩ = some v ∧ w'.cell? ⟨bl, ol + i * 5, none⟩ = some (.int .i64 n.k) ∧ w'.cell? ⟨bl, ol + i * 5 + 1, none⟩ = some (.int .i64 n.op) ∧ w'.cell? ⟨bl, ol + i * 5 + 2, none⟩ = some (.string n.s) ∧ w'.cell? ⟨bl, ol + i * 5 + 3, none⟩ = some (.string n.t) ∧ w'.cell? ⟨bl, ol + i * 5 + 4, none⟩ = some (.slice ak n.kids.length ck) ∧ w'.cell? ⟨w.heap.size, 0, none⟩ = some (.int .i64 q.l) ∧ w'.cell? ⟨w.heap.size, 1, none⟩ = some (.bool q.d) ∧ w'.cell? ⟨w.heap.size, 2, none⟩ = some (.bool q.i) ∧ w'.cell? ⟨w.heap.size, 3, none⟩ = some (.bool q.g) ∧ w'.cell? ⟨w.heap.size, 4, none⟩ = some (.bool q.s))
      (first | with_reducible exact Y0.out | with_reducible exact X1.out.c)
      (first | (go_at_call 87; refine (full_any n ak ck q _).mono ?_; rw [HC.out]; rintro e w1 ⟨rfl, b1⟩; have X1 := Lib.hid (HX.out.keep (undrew b1)); have S1 := Lib.hid (HS.out.keep (undrew b1)); have G1 := Lib.hid (HG.out.trans (Gr.quiet (undrew b1))); clear b1))
    obtain ⟨-, -, -, -, -, -, -, -, p0, p1, p2, p3, p4⟩ := X1.out.c
    go_wp2_with (go_at_call 151; refine (HU.out q HQ.out _ _ _ S1.out HL2.out).mono ?_; rintro e w2 ⟨rfl, hput⟩; have HP := Lib.hid hput; clear hput)
    go_end0
    obtain ⟨v2, s2, g2⟩ := HP.out
    exact ⟨rfl, v2, s2, G1.out.trans g2⟩
  · have HL2 := Lib.hid (show ts.length + (tok 32 :: (U i top ++ [tok 33])).length ≤ 1048576 from HL.out)
    simp only [List.length_cons, List.length_append, List.length_nil] at HL2
    go_enter Tryz.func83, Tryz.ntmps83
    go_wp2_with fail
    rw [← hW0] at HX HS HG Y0 ⊢
    clear hW0
    go_region_held3 (fun w' => w'.cell? ⟨w0.heap.size, 0, none⟩ = some (.slice (some ⟨bl, ol, none⟩) m cap) ∧ w'.cell? ⟨w0.heap.size, 1, none⟩ = some (.func (.func 87) #[] #[]) ∧ w'.cell? ⟨w0.heap.size, 2, none⟩ = some v ∧ w'.cell? ⟨bl, ol + i * 5, none⟩ = some (.int .i64 n.k) ∧ w'.cell? ⟨bl, ol + i * 5 + 1, none⟩ = some (.int .i64 n.op) ∧ w'.cell? ⟨bl, ol + i * 5 + 2, none⟩ = some (.string n.s) ∧ w'.cell? ⟨bl, ol + i * 5 + 3, none⟩ = some (.string n.t) ∧ w'.cell? ⟨bl, ol + i * 5 + 4, none⟩ = some (.slice ak n.kids.length ck) ∧ w'.cell? ⟨w.heap.size, 0, none⟩ = some (.int .i64 q.l) ∧ w'.cell? ⟨w.heap.size, 1, none⟩ = some (.bool q.d) ∧ w'.cell? ⟨w.heap.size, 2, none⟩ = some (.bool q.i) ∧ w'.cell? ⟨w.heap.size, 3, none⟩ = some (.bool q.g) ∧ w'.cell? ⟨w.heap.size, 4, none⟩ = some (.bool q.s))
      (first | with_reducible exact Y0.out | with_reducible exact X1.out.c)
      (first | (go_at_call 87; refine (full_any n ak ck q _).mono ?_; rw [HC.out]; rintro e w1 ⟨rfl, b1⟩; have X1 := Lib.hid (HX.out.keep (undrew b1)); have S1 := Lib.hid (HS.out.keep (undrew b1)); have G1 := Lib.hid (HG.out.trans (Gr.quiet (undrew b1))); clear b1))
    have L1 := Lib.hid (show ts.length ≤ 1048576 by have := HL2.out; omega)
    have L2 := Lib.hid (show (ts ++ [tok 32]).length + (U i top).length ≤ 1048576 by have := HL2.out; simp only [List.length_cons, List.length_append, List.length_nil]; omega)
    have L3 := Lib.hid (show (ts ++ [tok 32] ++ U i top).length ≤ 1048576 by have := HL2.out; simp only [List.length_cons, List.length_append, List.length_nil]; omega)
    go_wp2_with fail
    refine (symbol_any HH.out 32 _ L1.out S1.out).mono ?_
    rintro e w2 ⟨rfl, v2, s2, g2⟩
    have S2 := Lib.hid s2
    have G2 := Lib.hid (G1.out.trans g2)
    clear s2 g2
    go_wp2_with fail
    refine (ps.impl_top _).mono ?_
    rintro e w3 ⟨rfl, b3⟩
    have S3 := Lib.hid (S2.out.keep b3)
    have G3 := Lib.hid (G2.out.trans (Gr.quiet b3))
    clear b3
    go_wp2_with fail
    refine (HU.out top top_ok _ _ _ S3.out L2.out).mono ?_
    rintro e w4 ⟨rfl, v4, s4, g4⟩
    have S4 := Lib.hid s4
    have G4 := Lib.hid (G3.out.trans g4)
    clear s4 g4
    go_wp2_with fail
    refine (symbol_any HH.out 33 _ L3.out S4.out).mono ?_
    rintro e w5 ⟨rfl, v5, s5, g5⟩
    have S5 := Lib.hid s5
    have G5 := Lib.hid (G4.out.trans g5)
    clear s5 g5
    go_wp2
    go_end0
    refine ⟨rfl, v5, ?_, G5.out⟩
    have := S5.out
    simpa only [List.append_assoc, List.cons_append, List.nil_append, if_pos] using this
end Go.Proofs.YtiilpnoaocfjgaaGreatDoor.tw

namespace Go.Proofs.YtiilpnoaocfjgaaGreatDoor.tw
open Go.ChangeShapes Go.WideShapes Go.ChangeAt Go.RowKit
open tk (Tk)
open own
open nd (Nd Ints)
open ps (Ps posOk kidI top)
open spell (Held)
open et
set_option linter.unusedVariables false
set_option linter.unusedSimpArgs false
set_option maxRecDepth 20000

theorem of_name (x : Value) (k : Int) (hk : k = 1) (w : World) : Calls Tryz.prog 237 #[x, .int .i64 k] w fun e w' => e = .returned (.func (.func 323) #[x] #[]) ∧ w = w' := by
  subst hk
  have hmf : ∀ (fn : Fn) (first cap : Array Value) (w : World), (Instr.makeFunc fn first cap).run Tryz.prog w = .ok (.func fn first cap) w := fun _ _ _ _ => rfl
  go_enter Tryz.func237, Tryz.ntmps237
  go_wp2
  go_ret
  exact ⟨rfl, rfl⟩

theorem of_number (x : Value) (k : Int) (hk : k = 2) (w : World) : Calls Tryz.prog 237 #[x, .int .i64 k] w fun e w' => e = .returned (.func (.func 309) #[x] #[]) ∧ w = w' := by
  subst hk
  have hmf : ∀ (fn : Fn) (first cap : Array Value) (w : World), (Instr.makeFunc fn first cap).run Tryz.prog w = .ok (.func fn first cap) w := fun _ _ _ _ => rfl
  go_enter Tryz.func237, Tryz.ntmps237
  go_wp2
  go_ret
  exact ⟨rfl, rfl⟩

theorem of_str (x : Value) (k : Int) (hk : k = 3) (w : World) : Calls Tryz.prog 237 #[x, .int .i64 k] w fun e w' => e = .returned (.func (.func 310) #[x] #[]) ∧ w = w' := by
  subst hk
  have hmf : ∀ (fn : Fn) (first cap : Array Value) (w : World), (Instr.makeFunc fn first cap).run Tryz.prog w = .ok (.func fn first cap) w := fun _ _ _ _ => rfl
  go_enter Tryz.func237, Tryz.ntmps237
  go_wp2
  go_ret
  exact ⟨rfl, rfl⟩

theorem of_ere (x : Value) (k : Int) (hk : k = 4) (w : World) : Calls Tryz.prog 237 #[x, .int .i64 k] w fun e w' => e = .returned (.func (.func 311) #[x] #[]) ∧ w = w' := by
  subst hk
  have hmf : ∀ (fn : Fn) (first cap : Array Value) (w : World), (Instr.makeFunc fn first cap).run Tryz.prog w = .ok (.func fn first cap) w := fun _ _ _ _ => rfl
  go_enter Tryz.func237, Tryz.ntmps237
  go_wp2
  go_ret
  exact ⟨rfl, rfl⟩

theorem of_index (x : Value) (k : Int) (hk : k = 5) (w : World) : Calls Tryz.prog 237 #[x, .int .i64 k] w fun e w' => e = .returned (.func (.func 312) #[x] #[]) ∧ w = w' := by
  subst hk
  have hmf : ∀ (fn : Fn) (first cap : Array Value) (w : World), (Instr.makeFunc fn first cap).run Tryz.prog w = .ok (.func fn first cap) w := fun _ _ _ _ => rfl
  go_enter Tryz.func237, Tryz.ntmps237
  go_wp2
  go_ret
  exact ⟨rfl, rfl⟩

theorem of_field (x : Value) (k : Int) (hk : k = 6) (w : World) : Calls Tryz.prog 237 #[x, .int .i64 k] w fun e w' => e = .returned (.func (.func 313) #[x] #[]) ∧ w = w' := by
  subst hk
  have hmf : ∀ (fn : Fn) (first cap : Array Value) (w : World), (Instr.makeFunc fn first cap).run Tryz.prog w = .ok (.func fn first cap) w := fun _ _ _ _ => rfl
  go_enter Tryz.func237, Tryz.ntmps237
  go_wp2
  go_ret
  exact ⟨rfl, rfl⟩

theorem of_call (x : Value) (k : Int) (hk : k = 7) (w : World) : Calls Tryz.prog 237 #[x, .int .i64 k] w fun e w' => e = .returned (.func (.func 314) #[x] #[]) ∧ w = w' := by
  subst hk
  have hmf : ∀ (fn : Fn) (first cap : Array Value) (w : World), (Instr.makeFunc fn first cap).run Tryz.prog w = .ok (.func fn first cap) w := fun _ _ _ _ => rfl
  go_enter Tryz.func237, Tryz.ntmps237
  go_wp2
  go_ret
  exact ⟨rfl, rfl⟩

theorem of_builtin (x : Value) (k : Int) (hk : k = 8) (w : World) : Calls Tryz.prog 237 #[x, .int .i64 k] w fun e w' => e = .returned (.func (.func 315) #[x] #[]) ∧ w = w' := by
  subst hk
  have hmf : ∀ (fn : Fn) (first cap : Array Value) (w : World), (Instr.makeFunc fn first cap).run Tryz.prog w = .ok (.func fn first cap) w := fun _ _ _ _ => rfl
  go_enter Tryz.func237, Tryz.ntmps237
  go_wp2
  go_ret
  exact ⟨rfl, rfl⟩

theorem of_pre (x : Value) (k : Int) (hk : k = 9) (w : World) : Calls Tryz.prog 237 #[x, .int .i64 k] w fun e w' => e = .returned (.func (.func 316) #[x] #[]) ∧ w = w' := by
  subst hk
  have hmf : ∀ (fn : Fn) (first cap : Array Value) (w : World), (Instr.makeFunc fn first cap).run Tryz.prog w = .ok (.func fn first cap) w := fun _ _ _ _ => rfl
  go_enter Tryz.func237, Tryz.ntmps237
  go_wp2
  go_ret
  exact ⟨rfl, rfl⟩

theorem of_post (x : Value) (k : Int) (hk : k = 10) (w : World) : Calls Tryz.prog 237 #[x, .int .i64 k] w fun e w' => e = .returned (.func (.func 317) #[x] #[]) ∧ w = w' := by
  subst hk
  have hmf : ∀ (fn : Fn) (first cap : Array Value) (w : World), (Instr.makeFunc fn first cap).run Tryz.prog w = .ok (.func fn first cap) w := fun _ _ _ _ => rfl
  go_enter Tryz.func237, Tryz.ntmps237
  go_wp2
  go_ret
  exact ⟨rfl, rfl⟩

theorem of_unary (x : Value) (k : Int) (hk : k = 11) (w : World) : Calls Tryz.prog 237 #[x, .int .i64 k] w fun e w' => e = .returned (.func (.func 318) #[x] #[]) ∧ w = w' := by
  subst hk
  have hmf : ∀ (fn : Fn) (first cap : Array Value) (w : World), (Instr.makeFunc fn first cap).run Tryz.prog w = .ok (.func fn first cap) w := fun _ _ _ _ => rfl
  go_enter Tryz.func237, Tryz.ntmps237
  go_wp2
  go_ret
  exact ⟨rfl, rfl⟩

theorem of_binary (x : Value) (k : Int) (hk : k = 12) (w : World) : Calls Tryz.prog 237 #[x, .int .i64 k] w fun e w' => e = .returned (.func (.func 319) #[x] #[]) ∧ w = w' := by
  subst hk
  have hmf : ∀ (fn : Fn) (first cap : Array Value) (w : World), (Instr.makeFunc fn first cap).run Tryz.prog w = .ok (.func fn first cap) w := fun _ _ _ _ => rfl
  go_enter Tryz.func237, Tryz.ntmps237
  go_wp2
  go_ret
  exact ⟨rfl, rfl⟩

theorem of_in (x : Value) (k : Int) (hk : k = 13) (w : World) : Calls Tryz.prog 237 #[x, .int .i64 k] w fun e w' => e = .returned (.func (.func 320) #[x] #[]) ∧ w = w' := by
  subst hk
  have hmf : ∀ (fn : Fn) (first cap : Array Value) (w : World), (Instr.makeFunc fn first cap).run Tryz.prog w = .ok (.func fn first cap) w := fun _ _ _ _ => rfl
  go_enter Tryz.func237, Tryz.ntmps237
  go_wp2
  go_ret
  exact ⟨rfl, rfl⟩

theorem of_cond (x : Value) (k : Int) (hk : k = 14) (w : World) : Calls Tryz.prog 237 #[x, .int .i64 k] w fun e w' => e = .returned (.func (.func 321) #[x] #[]) ∧ w = w' := by
  subst hk
  have hmf : ∀ (fn : Fn) (first cap : Array Value) (w : World), (Instr.makeFunc fn first cap).run Tryz.prog w = .ok (.func fn first cap) w := fun _ _ _ _ => rfl
  go_enter Tryz.func237, Tryz.ntmps237
  go_wp2
  go_ret
  exact ⟨rfl, rfl⟩

theorem of_assign (x : Value) (k : Int) (hk : k = 15) (w : World) : Calls Tryz.prog 237 #[x, .int .i64 k] w fun e w' => e = .returned (.func (.func 322) #[x] #[]) ∧ w = w' := by
  subst hk
  have hmf : ∀ (fn : Fn) (first cap : Array Value) (w : World), (Instr.makeFunc fn first cap).run Tryz.prog w = .ok (.func fn first cap) w := fun _ _ _ _ => rfl
  go_enter Tryz.func237, Tryz.ntmps237
  go_wp2
  go_ret
  exact ⟨rfl, rfl⟩

set_option maxHeartbeats 1600000 in
theorem un_name {w0 : World} {a : Option Addr} {m cap : Nat} {fv : Value} {l : List Nd} {i : Nat} {E U : Nat → Ps → List Tk} (n : Nd) (hc : n.k = 1) (hmx : m ≤ 1048576) (hi : i < m) (bl ol : Nat) (ha : a = some ⟨bl, ol, none⟩) (hbl : bl < w0.heap.size) (ak : Option Addr) (ck : Nat) (h5 : nd.Five w0 bl (ol + i * 5) n ak ck)
    (hv : ∀ p : Ps, posOk p.l p.d = true → Giv w0 a m cap fv l i n ak p E U) : CallE 151 w0 a m cap fv i (fun q => body E U n q) := by
  subst ha
  intro q hq v ts w hst hl
  have HV := Lib.hid (hv q hq)
  have X0 := Ex.start hst h5 hbl q
  obtain ⟨x0, x1, x2, y0, y1, y2, y3, y4, z0, z1, z2, z3, z4⟩ := X0.c
  have HX := Lib.hid X0
  have HS := Lib.hid (hst.alloc (.cells #[.int .i64 q.l, .bool q.d, .bool q.i, .bool q.g, .bool q.s] 26))
  have HG := Lib.hid (show Gr w0.heap.size v v w (w.alloc (.cells #[.int .i64 q.l, .bool q.d, .bool q.i, .bool q.g, .bool q.s] 26)) from Gr.quiet ((Below.refl _ _).alloc (Nat.le_refl _) _))
  have HL := Lib.hid hl
  have HC := Lib.hid hc
  have hk1 : (0 : Int) ≤ (i : Int) := by omega
  have hk2 : (i : Int) < (m : Int) := by omega
  clear hl hst hv h5 X0 hc hi hq
  go_enter Tryz.func151, Tryz.ntmps151
  go_wp2_with fail
  refine (of_name _ _ HC.out _).mono ?_
  rintro e w1 ⟨rfl, rfl⟩
  go_wp2_with fail
  refine (m_name n ak ck q _ HC.out HV.out (HS.out.alloc _) HL.out).mono ?_
  rintro e w2 ⟨rfl, v2, s2, g2⟩
  have S2 := Lib.hid s2
  have G2 := Lib.hid (HG.out.trans ((Gr.quiet ((Below.refl _ _).alloc (Nat.le_refl _) _)).trans g2))
  clear s2 g2
  go_wp2
  go_end0
  exact ⟨rfl, v2, S2.out, G2.out⟩

set_option maxHeartbeats 1600000 in
theorem un_number {w0 : World} {a : Option Addr} {m cap : Nat} {fv : Value} {l : List Nd} {i : Nat} {E U : Nat → Ps → List Tk} (n : Nd) (hc : n.k = 2) (hmx : m ≤ 1048576) (hi : i < m) (bl ol : Nat) (ha : a = some ⟨bl, ol, none⟩) (hbl : bl < w0.heap.size) (ak : Option Addr) (ck : Nat) (h5 : nd.Five w0 bl (ol + i * 5) n ak ck)
    (hv : ∀ p : Ps, posOk p.l p.d = true → Giv w0 a m cap fv l i n ak p E U) : CallE 151 w0 a m cap fv i (fun q => body E U n q) := by
  subst ha
  intro q hq v ts w hst hl
  have HV := Lib.hid (hv q hq)
  have X0 := Ex.start hst h5 hbl q
  obtain ⟨x0, x1, x2, y0, y1, y2, y3, y4, z0, z1, z2, z3, z4⟩ := X0.c
  have HX := Lib.hid X0
  have HS := Lib.hid (hst.alloc (.cells #[.int .i64 q.l, .bool q.d, .bool q.i, .bool q.g, .bool q.s] 26))
  have HG := Lib.hid (show Gr w0.heap.size v v w (w.alloc (.cells #[.int .i64 q.l, .bool q.d, .bool q.i, .bool q.g, .bool q.s] 26)) from Gr.quiet ((Below.refl _ _).alloc (Nat.le_refl _) _))
  have HL := Lib.hid hl
  have HC := Lib.hid hc
  have hk1 : (0 : Int) ≤ (i : Int) := by omega
  have hk2 : (i : Int) < (m : Int) := by omega
  clear hl hst hv h5 X0 hc hi hq
  go_enter Tryz.func151, Tryz.ntmps151
  go_wp2_with fail
  refine (of_number _ _ HC.out _).mono ?_
  rintro e w1 ⟨rfl, rfl⟩
  go_wp2_with fail
  refine (m_number n ak ck q _ HC.out HV.out (HS.out.alloc _) HL.out).mono ?_
  rintro e w2 ⟨rfl, v2, s2, g2⟩
  have S2 := Lib.hid s2
  have G2 := Lib.hid (HG.out.trans ((Gr.quiet ((Below.refl _ _).alloc (Nat.le_refl _) _)).trans g2))
  clear s2 g2
  go_wp2
  go_end0
  exact ⟨rfl, v2, S2.out, G2.out⟩

set_option maxHeartbeats 1600000 in
theorem un_str {w0 : World} {a : Option Addr} {m cap : Nat} {fv : Value} {l : List Nd} {i : Nat} {E U : Nat → Ps → List Tk} (n : Nd) (hc : n.k = 3) (hmx : m ≤ 1048576) (hi : i < m) (bl ol : Nat) (ha : a = some ⟨bl, ol, none⟩) (hbl : bl < w0.heap.size) (ak : Option Addr) (ck : Nat) (h5 : nd.Five w0 bl (ol + i * 5) n ak ck)
    (hv : ∀ p : Ps, posOk p.l p.d = true → Giv w0 a m cap fv l i n ak p E U) : CallE 151 w0 a m cap fv i (fun q => body E U n q) := by
  subst ha
  intro q hq v ts w hst hl
  have HV := Lib.hid (hv q hq)
  have X0 := Ex.start hst h5 hbl q
  obtain ⟨x0, x1, x2, y0, y1, y2, y3, y4, z0, z1, z2, z3, z4⟩ := X0.c
  have HX := Lib.hid X0
  have HS := Lib.hid (hst.alloc (.cells #[.int .i64 q.l, .bool q.d, .bool q.i, .bool q.g, .bool q.s] 26))
  have HG := Lib.hid (show Gr w0.heap.size v v w (w.alloc (.cells #[.int .i64 q.l, .bool q.d, .bool q.i, .bool q.g, .bool q.s] 26)) from Gr.quiet ((Below.refl _ _).alloc (Nat.le_refl _) _))
  have HL := Lib.hid hl
  have HC := Lib.hid hc
  have hk1 : (0 : Int) ≤ (i : Int) := by omega
  have hk2 : (i : Int) < (m : Int) := by omega
  clear hl hst hv h5 X0 hc hi hq
  go_enter Tryz.func151, Tryz.ntmps151
  go_wp2_with fail
  refine (of_str _ _ HC.out _).mono ?_
  rintro e w1 ⟨rfl, rfl⟩
  go_wp2_with fail
  refine (m_str n ak ck q _ HC.out HV.out (HS.out.alloc _) HL.out).mono ?_
  rintro e w2 ⟨rfl, v2, s2, g2⟩
  have S2 := Lib.hid s2
  have G2 := Lib.hid (HG.out.trans ((Gr.quiet ((Below.refl _ _).alloc (Nat.le_refl _) _)).trans g2))
  clear s2 g2
  go_wp2
  go_end0
  exact ⟨rfl, v2, S2.out, G2.out⟩

set_option maxHeartbeats 1600000 in
theorem un_ere {w0 : World} {a : Option Addr} {m cap : Nat} {fv : Value} {l : List Nd} {i : Nat} {E U : Nat → Ps → List Tk} (n : Nd) (hc : n.k = 4) (hmx : m ≤ 1048576) (hi : i < m) (bl ol : Nat) (ha : a = some ⟨bl, ol, none⟩) (hbl : bl < w0.heap.size) (ak : Option Addr) (ck : Nat) (h5 : nd.Five w0 bl (ol + i * 5) n ak ck)
    (hv : ∀ p : Ps, posOk p.l p.d = true → Giv w0 a m cap fv l i n ak p E U) : CallE 151 w0 a m cap fv i (fun q => body E U n q) := by
  subst ha
  intro q hq v ts w hst hl
  have HV := Lib.hid (hv q hq)
  have X0 := Ex.start hst h5 hbl q
  obtain ⟨x0, x1, x2, y0, y1, y2, y3, y4, z0, z1, z2, z3, z4⟩ := X0.c
  have HX := Lib.hid X0
  have HS := Lib.hid (hst.alloc (.cells #[.int .i64 q.l, .bool q.d, .bool q.i, .bool q.g, .bool q.s] 26))
  have HG := Lib.hid (show Gr w0.heap.size v v w (w.alloc (.cells #[.int .i64 q.l, .bool q.d, .bool q.i, .bool q.g, .bool q.s] 26)) from Gr.quiet ((Below.refl _ _).alloc (Nat.le_refl _) _))
  have HL := Lib.hid hl
  have HC := Lib.hid hc
  have hk1 : (0 : Int) ≤ (i : Int) := by omega
  have hk2 : (i : Int) < (m : Int) := by omega
  clear hl hst hv h5 X0 hc hi hq
  go_enter Tryz.func151, Tryz.ntmps151
  go_wp2_with fail
  refine (of_ere _ _ HC.out _).mono ?_
  rintro e w1 ⟨rfl, rfl⟩
  go_wp2_with fail
  refine (m_ere n ak ck q _ HC.out HV.out (HS.out.alloc _) HL.out).mono ?_
  rintro e w2 ⟨rfl, v2, s2, g2⟩
  have S2 := Lib.hid s2
  have G2 := Lib.hid (HG.out.trans ((Gr.quiet ((Below.refl _ _).alloc (Nat.le_refl _) _)).trans g2))
  clear s2 g2
  go_wp2
  go_end0
  exact ⟨rfl, v2, S2.out, G2.out⟩

set_option maxHeartbeats 1600000 in
theorem un_index {w0 : World} {a : Option Addr} {m cap : Nat} {fv : Value} {l : List Nd} {i : Nat} {E U : Nat → Ps → List Tk} (n : Nd) (hc : n.k = 5) (hmx : m ≤ 1048576) (hi : i < m) (bl ol : Nat) (ha : a = some ⟨bl, ol, none⟩) (hbl : bl < w0.heap.size) (ak : Option Addr) (ck : Nat) (h5 : nd.Five w0 bl (ol + i * 5) n ak ck)
    (hv : ∀ p : Ps, posOk p.l p.d = true → Giv w0 a m cap fv l i n ak p E U) : CallE 151 w0 a m cap fv i (fun q => body E U n q) := by
  subst ha
  intro q hq v ts w hst hl
  have HV := Lib.hid (hv q hq)
  have X0 := Ex.start hst h5 hbl q
  obtain ⟨x0, x1, x2, y0, y1, y2, y3, y4, z0, z1, z2, z3, z4⟩ := X0.c
  have HX := Lib.hid X0
  have HS := Lib.hid (hst.alloc (.cells #[.int .i64 q.l, .bool q.d, .bool q.i, .bool q.g, .bool q.s] 26))
  have HG := Lib.hid (show Gr w0.heap.size v v w (w.alloc (.cells #[.int .i64 q.l, .bool q.d, .bool q.i, .bool q.g, .bool q.s] 26)) from Gr.quiet ((Below.refl _ _).alloc (Nat.le_refl _) _))
  have HL := Lib.hid hl
  have HC := Lib.hid hc
  have hk1 : (0 : Int) ≤ (i : Int) := by omega
  have hk2 : (i : Int) < (m : Int) := by omega
  clear hl hst hv h5 X0 hc hi hq
  go_enter Tryz.func151, Tryz.ntmps151
  go_wp2_with fail
  refine (of_index _ _ HC.out _).mono ?_
  rintro e w1 ⟨rfl, rfl⟩
  go_wp2_with fail
  refine (m_index n ak ck q _ HC.out HV.out (HS.out.alloc _) HL.out).mono ?_
  rintro e w2 ⟨rfl, v2, s2, g2⟩
  have S2 := Lib.hid s2
  have G2 := Lib.hid (HG.out.trans ((Gr.quiet ((Below.refl _ _).alloc (Nat.le_refl _) _)).trans g2))
  clear s2 g2
  go_wp2
  go_end0
  exact ⟨rfl, v2, S2.out, G2.out⟩

set_option maxHeartbeats 1600000 in
theorem un_field {w0 : World} {a : Option Addr} {m cap : Nat} {fv : Value} {l : List Nd} {i : Nat} {E U : Nat → Ps → List Tk} (n : Nd) (hc : n.k = 6) (hmx : m ≤ 1048576) (hi : i < m) (bl ol : Nat) (ha : a = some ⟨bl, ol, none⟩) (hbl : bl < w0.heap.size) (ak : Option Addr) (ck : Nat) (h5 : nd.Five w0 bl (ol + i * 5) n ak ck)
    (hv : ∀ p : Ps, posOk p.l p.d = true → Giv w0 a m cap fv l i n ak p E U) : CallE 151 w0 a m cap fv i (fun q => body E U n q) := by
  subst ha
  intro q hq v ts w hst hl
  have HV := Lib.hid (hv q hq)
  have X0 := Ex.start hst h5 hbl q
  obtain ⟨x0, x1, x2, y0, y1, y2, y3, y4, z0, z1, z2, z3, z4⟩ := X0.c
  have HX := Lib.hid X0
  have HS := Lib.hid (hst.alloc (.cells #[.int .i64 q.l, .bool q.d, .bool q.i, .bool q.g, .bool q.s] 26))
  have HG := Lib.hid (show Gr w0.heap.size v v w (w.alloc (.cells #[.int .i64 q.l, .bool q.d, .bool q.i, .bool q.g, .bool q.s] 26)) from Gr.quiet ((Below.refl _ _).alloc (Nat.le_refl _) _))
  have HL := Lib.hid hl
  have HC := Lib.hid hc
  have hk1 : (0 : Int) ≤ (i : Int) := by omega
  have hk2 : (i : Int) < (m : Int) := by omega
  clear hl hst hv h5 X0 hc hi hq
  go_enter Tryz.func151, Tryz.ntmps151
  go_wp2_with fail
  refine (of_field _ _ HC.out _).mono ?_
  rintro e w1 ⟨rfl, rfl⟩
  go_wp2_with fail
  refine (m_field n ak ck q _ HC.out HV.out (HS.out.alloc _) HL.out).mono ?_
  rintro e w2 ⟨rfl, v2, s2, g2⟩
  have S2 := Lib.hid s2
  have G2 := Lib.hid (HG.out.trans ((Gr.quiet ((Below.refl _ _).alloc (Nat.le_refl _) _)).trans g2))
  clear s2 g2
  go_wp2
  go_end0
  exact ⟨rfl, v2, S2.out, G2.out⟩

set_option maxHeartbeats 1600000 in
theorem un_call {w0 : World} {a : Option Addr} {m cap : Nat} {fv : Value} {l : List Nd} {i : Nat} {E U : Nat → Ps → List Tk} (n : Nd) (hc : n.k = 7) (hmx : m ≤ 1048576) (hi : i < m) (bl ol : Nat) (ha : a = some ⟨bl, ol, none⟩) (hbl : bl < w0.heap.size) (ak : Option Addr) (ck : Nat) (h5 : nd.Five w0 bl (ol + i * 5) n ak ck)
    (hv : ∀ p : Ps, posOk p.l p.d = true → Giv w0 a m cap fv l i n ak p E U) : CallE 151 w0 a m cap fv i (fun q => body E U n q) := by
  subst ha
  intro q hq v ts w hst hl
  have HV := Lib.hid (hv q hq)
  have X0 := Ex.start hst h5 hbl q
  obtain ⟨x0, x1, x2, y0, y1, y2, y3, y4, z0, z1, z2, z3, z4⟩ := X0.c
  have HX := Lib.hid X0
  have HS := Lib.hid (hst.alloc (.cells #[.int .i64 q.l, .bool q.d, .bool q.i, .bool q.g, .bool q.s] 26))
  have HG := Lib.hid (show Gr w0.heap.size v v w (w.alloc (.cells #[.int .i64 q.l, .bool q.d, .bool q.i, .bool q.g, .bool q.s] 26)) from Gr.quiet ((Below.refl _ _).alloc (Nat.le_refl _) _))
  have HL := Lib.hid hl
  have HC := Lib.hid hc
  have hk1 : (0 : Int) ≤ (i : Int) := by omega
  have hk2 : (i : Int) < (m : Int) := by omega
  clear hl hst hv h5 X0 hc hi hq
  go_enter Tryz.func151, Tryz.ntmps151
  go_wp2_with fail
  refine (of_call _ _ HC.out _).mono ?_
  rintro e w1 ⟨rfl, rfl⟩
  go_wp2_with fail
  refine (m_call n ak ck q _ HC.out HV.out (HS.out.alloc _) HL.out).mono ?_
  rintro e w2 ⟨rfl, v2, s2, g2⟩
  have S2 := Lib.hid s2
  have G2 := Lib.hid (HG.out.trans ((Gr.quiet ((Below.refl _ _).alloc (Nat.le_refl _) _)).trans g2))
  clear s2 g2
  go_wp2
  go_end0
  exact ⟨rfl, v2, S2.out, G2.out⟩

set_option maxHeartbeats 1600000 in
theorem un_builtin {w0 : World} {a : Option Addr} {m cap : Nat} {fv : Value} {l : List Nd} {i : Nat} {E U : Nat → Ps → List Tk} (n : Nd) (hc : n.k = 8) (hmx : m ≤ 1048576) (hi : i < m) (bl ol : Nat) (ha : a = some ⟨bl, ol, none⟩) (hbl : bl < w0.heap.size) (ak : Option Addr) (ck : Nat) (h5 : nd.Five w0 bl (ol + i * 5) n ak ck)
    (hv : ∀ p : Ps, posOk p.l p.d = true → Giv w0 a m cap fv l i n ak p E U) : CallE 151 w0 a m cap fv i (fun q => body E U n q) := by
  subst ha
  intro q hq v ts w hst hl
  have HV := Lib.hid (hv q hq)
  have X0 := Ex.start hst h5 hbl q
  obtain ⟨x0, x1, x2, y0, y1, y2, y3, y4, z0, z1, z2, z3, z4⟩ := X0.c
  have HX := Lib.hid X0
  have HS := Lib.hid (hst.alloc (.cells #[.int .i64 q.l, .bool q.d, .bool q.i, .bool q.g, .bool q.s] 26))
  have HG := Lib.hid (show Gr w0.heap.size v v w (w.alloc (.cells #[.int .i64 q.l, .bool q.d, .bool q.i, .bool q.g, .bool q.s] 26)) from Gr.quiet ((Below.refl _ _).alloc (Nat.le_refl _) _))
  have HL := Lib.hid hl
  have HC := Lib.hid hc
  have hk1 : (0 : Int) ≤ (i : Int) := by omega
  have hk2 : (i : Int) < (m : Int) := by omega
  clear hl hst hv h5 X0 hc hi hq
  go_enter Tryz.func151, Tryz.ntmps151
  go_wp2_with fail
  refine (of_builtin _ _ HC.out _).mono ?_
  rintro e w1 ⟨rfl, rfl⟩
  go_wp2_with fail
  refine (m_builtin n ak ck q _ HC.out HV.out (HS.out.alloc _) HL.out).mono ?_
  rintro e w2 ⟨rfl, v2, s2, g2⟩
  have S2 := Lib.hid s2
  have G2 := Lib.hid (HG.out.trans ((Gr.quiet ((Below.refl _ _).alloc (Nat.le_refl _) _)).trans g2))
  clear s2 g2
  go_wp2
  go_end0
  exact ⟨rfl, v2, S2.out, G2.out⟩

set_option maxHeartbeats 1600000 in
theorem un_pre {w0 : World} {a : Option Addr} {m cap : Nat} {fv : Value} {l : List Nd} {i : Nat} {E U : Nat → Ps → List Tk} (n : Nd) (hc : n.k = 9) (hmx : m ≤ 1048576) (hi : i < m) (bl ol : Nat) (ha : a = some ⟨bl, ol, none⟩) (hbl : bl < w0.heap.size) (ak : Option Addr) (ck : Nat) (h5 : nd.Five w0 bl (ol + i * 5) n ak ck)
    (hv : ∀ p : Ps, posOk p.l p.d = true → Giv w0 a m cap fv l i n ak p E U) : CallE 151 w0 a m cap fv i (fun q => body E U n q) := by
  subst ha
  intro q hq v ts w hst hl
  have HV := Lib.hid (hv q hq)
  have X0 := Ex.start hst h5 hbl q
  obtain ⟨x0, x1, x2, y0, y1, y2, y3, y4, z0, z1, z2, z3, z4⟩ := X0.c
  have HX := Lib.hid X0
  have HS := Lib.hid (hst.alloc (.cells #[.int .i64 q.l, .bool q.d, .bool q.i, .bool q.g, .bool q.s] 26))
  have HG := Lib.hid (show Gr w0.heap.size v v w (w.alloc (.cells #[.int .i64 q.l, .bool q.d, .bool q.i, .bool q.g, .bool q.s] 26)) from Gr.quiet ((Below.refl _ _).alloc (Nat.le_refl _) _))
  have HL := Lib.hid hl
  have HC := Lib.hid hc
  have hk1 : (0 : Int) ≤ (i : Int) := by omega
  have hk2 : (i : Int) < (m : Int) := by omega
  clear hl hst hv h5 X0 hc hi hq
  go_enter Tryz.func151, Tryz.ntmps151
  go_wp2_with fail
  refine (of_pre _ _ HC.out _).mono ?_
  rintro e w1 ⟨rfl, rfl⟩
  go_wp2_with fail
  refine (m_pre n ak ck q _ HC.out HV.out (HS.out.alloc _) HL.out).mono ?_
  rintro e w2 ⟨rfl, v2, s2, g2⟩
  have S2 := Lib.hid s2
  have G2 := Lib.hid (HG.out.trans ((Gr.quiet ((Below.refl _ _).alloc (Nat.le_refl _) _)).trans g2))
  clear s2 g2
  go_wp2
  go_end0
  exact ⟨rfl, v2, S2.out, G2.out⟩

set_option maxHeartbeats 1600000 in
theorem un_post {w0 : World} {a : Option Addr} {m cap : Nat} {fv : Value} {l : List Nd} {i : Nat} {E U : Nat → Ps → List Tk} (n : Nd) (hc : n.k = 10) (hmx : m ≤ 1048576) (hi : i < m) (bl ol : Nat) (ha : a = some ⟨bl, ol, none⟩) (hbl : bl < w0.heap.size) (ak : Option Addr) (ck : Nat) (h5 : nd.Five w0 bl (ol + i * 5) n ak ck)
    (hv : ∀ p : Ps, posOk p.l p.d = true → Giv w0 a m cap fv l i n ak p E U) : CallE 151 w0 a m cap fv i (fun q => body E U n q) := by
  subst ha
  intro q hq v ts w hst hl
  have HV := Lib.hid (hv q hq)
  have X0 := Ex.start hst h5 hbl q
  obtain ⟨x0, x1, x2, y0, y1, y2, y3, y4, z0, z1, z2, z3, z4⟩ := X0.c
  have HX := Lib.hid X0
  have HS := Lib.hid (hst.alloc (.cells #[.int .i64 q.l, .bool q.d, .bool q.i, .bool q.g, .bool q.s] 26))
  have HG := Lib.hid (show Gr w0.heap.size v v w (w.alloc (.cells #[.int .i64 q.l, .bool q.d, .bool q.i, .bool q.g, .bool q.s] 26)) from Gr.quiet ((Below.refl _ _).alloc (Nat.le_refl _) _))
  have HL := Lib.hid hl
  have HC := Lib.hid hc
  have hk1 : (0 : Int) ≤ (i : Int) := by omega
  have hk2 : (i : Int) < (m : Int) := by omega
  clear hl hst hv h5 X0 hc hi hq
  go_enter Tryz.func151, Tryz.ntmps151
  go_wp2_with fail
  refine (of_post _ _ HC.out _).mono ?_
  rintro e w1 ⟨rfl, rfl⟩
  go_wp2_with fail
  refine (m_post n ak ck q _ HC.out HV.out (HS.out.alloc _) HL.out).mono ?_
  rintro e w2 ⟨rfl, v2, s2, g2⟩
  have S2 := Lib.hid s2
  have G2 := Lib.hid (HG.out.trans ((Gr.quiet ((Below.refl _ _).alloc (Nat.le_refl _) _)).trans g2))
  clear s2 g2
  go_wp2
  go_end0
  exact ⟨rfl, v2, S2.out, G2.out⟩

set_option maxHeartbeats 1600000 in
theorem un_unary {w0 : World} {a : Option Addr} {m cap : Nat} {fv : Value} {l : List Nd} {i : Nat} {E U : Nat → Ps → List Tk} (n : Nd) (hc : n.k = 11) (hmx : m ≤ 1048576) (hi : i < m) (bl ol : Nat) (ha : a = some ⟨bl, ol, none⟩) (hbl : bl < w0.heap.size) (ak : Option Addr) (ck : Nat) (h5 : nd.Five w0 bl (ol + i * 5) n ak ck)
    (hv : ∀ p : Ps, posOk p.l p.d = true → Giv w0 a m cap fv l i n ak p E U) : CallE 151 w0 a m cap fv i (fun q => body E U n q) := by
  subst ha
  intro q hq v ts w hst hl
  have HV := Lib.hid (hv q hq)
  have X0 := Ex.start hst h5 hbl q
  obtain ⟨x0, x1, x2, y0, y1, y2, y3, y4, z0, z1, z2, z3, z4⟩ := X0.c
  have HX := Lib.hid X0
  have HS := Lib.hid (hst.alloc (.cells #[.int .i64 q.l, .bool q.d, .bool q.i, .bool q.g, .bool q.s] 26))
  have HG := Lib.hid (show Gr w0.heap.size v v w (w.alloc (.cells #[.int .i64 q.l, .bool q.d, .bool q.i, .bool q.g, .bool q.s] 26)) from Gr.quiet ((Below.refl _ _).alloc (Nat.le_refl _) _))
  have HL := Lib.hid hl
  have HC := Lib.hid hc
  have hk1 : (0 : Int) ≤ (i : Int) := by omega
  have hk2 : (i : Int) < (m : Int) := by omega
  clear hl hst hv h5 X0 hc hi hq
  go_enter Tryz.func151, Tryz.ntmps151
  go_wp2_with fail
  refine (of_unary _ _ HC.out _).mono ?_
  rintro e w1 ⟨rfl, rfl⟩
  go_wp2_with fail
  refine (m_unary n ak ck q _ HC.out HV.out (HS.out.alloc _) HL.out).mono ?_
  rintro e w2 ⟨rfl, v2, s2, g2⟩
  have S2 := Lib.hid s2
  have G2 := Lib.hid (HG.out.trans ((Gr.quiet ((Below.refl _ _).alloc (Nat.le_refl _) _)).trans g2))
  clear s2 g2
  go_wp2
  go_end0
  exact ⟨rfl, v2, S2.out, G2.out⟩

set_option maxHeartbeats 1600000 in
theorem un_binary {w0 : World} {a : Option Addr} {m cap : Nat} {fv : Value} {l : List Nd} {i : Nat} {E U : Nat → Ps → List Tk} (n : Nd) (hc : n.k = 12) (hmx : m ≤ 1048576) (hi : i < m) (bl ol : Nat) (ha : a = some ⟨bl, ol, none⟩) (hbl : bl < w0.heap.size) (ak : Option Addr) (ck : Nat) (h5 : nd.Five w0 bl (ol + i * 5) n ak ck)
    (hv : ∀ p : Ps, posOk p.l p.d = true → Giv w0 a m cap fv l i n ak p E U) : CallE 151 w0 a m cap fv i (fun q => body E U n q) := by
  subst ha
  intro q hq v ts w hst hl
  have HV := Lib.hid (hv q hq)
  have X0 := Ex.start hst h5 hbl q
  obtain ⟨x0, x1, x2, y0, y1, y2, y3, y4, z0, z1, z2, z3, z4⟩ := X0.c
  have HX := Lib.hid X0
  have HS := Lib.hid (hst.alloc (.cells #[.int .i64 q.l, .bool q.d, .bool q.i, .bool q.g, .bool q.s] 26))
  have HG := Lib.hid (show Gr w0.heap.size v v w (w.alloc (.cells #[.int .i64 q.l, .bool q.d, .bool q.i, .bool q.g, .bool q.s] 26)) from Gr.quiet ((Below.refl _ _).alloc (Nat.le_refl _) _))
  have HL := Lib.hid hl
  have HC := Lib.hid hc
  have hk1 : (0 : Int) ≤ (i : Int) := by omega
  have hk2 : (i : Int) < (m : Int) := by omega
  clear hl hst hv h5 X0 hc hi hq
  go_enter Tryz.func151, Tryz.ntmps151
  go_wp2_with fail
  refine (of_binary _ _ HC.out _).mono ?_
  rintro e w1 ⟨rfl, rfl⟩
  go_wp2_with fail
  refine (m_binary n ak ck q _ HC.out HV.out (HS.out.alloc _) HL.out).mono ?_
  rintro e w2 ⟨rfl, v2, s2, g2⟩
  have S2 := Lib.hid s2
  have G2 := Lib.hid (HG.out.trans ((Gr.quiet ((Below.refl _ _).alloc (Nat.le_refl _) _)).trans g2))
  clear s2 g2
  go_wp2
  go_end0
  exact ⟨rfl, v2, S2.out, G2.out⟩

set_option maxHeartbeats 1600000 in
theorem un_in {w0 : World} {a : Option Addr} {m cap : Nat} {fv : Value} {l : List Nd} {i : Nat} {E U : Nat → Ps → List Tk} (n : Nd) (hc : n.k = 13) (hmx : m ≤ 1048576) (hi : i < m) (bl ol : Nat) (ha : a = some ⟨bl, ol, none⟩) (hbl : bl < w0.heap.size) (ak : Option Addr) (ck : Nat) (h5 : nd.Five w0 bl (ol + i * 5) n ak ck)
    (hv : ∀ p : Ps, posOk p.l p.d = true → Giv w0 a m cap fv l i n ak p E U) : CallE 151 w0 a m cap fv i (fun q => body E U n q) := by
  subst ha
  intro q hq v ts w hst hl
  have HV := Lib.hid (hv q hq)
  have X0 := Ex.start hst h5 hbl q
  obtain ⟨x0, x1, x2, y0, y1, y2, y3, y4, z0, z1, z2, z3, z4⟩ := X0.c
  have HX := Lib.hid X0
  have HS := Lib.hid (hst.alloc (.cells #[.int .i64 q.l, .bool q.d, .bool q.i, .bool q.g, .bool q.s] 26))
  have HG := Lib.hid (show Gr w0.heap.size v v w (w.alloc (.cells #[.int .i64 q.l, .bool q.d, .bool q.i, .bool q.g, .bool q.s] 26)) from Gr.quiet ((Below.refl _ _).alloc (Nat.le_refl _) _))
  have HL := Lib.hid hl
  have HC := Lib.hid hc
  have hk1 : (0 : Int) ≤ (i : Int) := by omega
  have hk2 : (i : Int) < (m : Int) := by omega
  clear hl hst hv h5 X0 hc hi hq
  go_enter Tryz.func151, Tryz.ntmps151
  go_wp2_with fail
  refine (of_in _ _ HC.out _).mono ?_
  rintro e w1 ⟨rfl, rfl⟩
  go_wp2_with fail
  refine (m_in n ak ck q _ HC.out HV.out (HS.out.alloc _) HL.out).mono ?_
  rintro e w2 ⟨rfl, v2, s2, g2⟩
  have S2 := Lib.hid s2
  have G2 := Lib.hid (HG.out.trans ((Gr.quiet ((Below.refl _ _).alloc (Nat.le_refl _) _)).trans g2))
  clear s2 g2
  go_wp2
  go_end0
  exact ⟨rfl, v2, S2.out, G2.out⟩

set_option maxHeartbeats 1600000 in
theorem un_cond {w0 : World} {a : Option Addr} {m cap : Nat} {fv : Value} {l : List Nd} {i : Nat} {E U : Nat → Ps → List Tk} (n : Nd) (hc : n.k = 14) (hmx : m ≤ 1048576) (hi : i < m) (bl ol : Nat) (ha : a = some ⟨bl, ol, none⟩) (hbl : bl < w0.heap.size) (ak : Option Addr) (ck : Nat) (h5 : nd.Five w0 bl (ol + i * 5) n ak ck)
    (hv : ∀ p : Ps, posOk p.l p.d = true → Giv w0 a m cap fv l i n ak p E U) : CallE 151 w0 a m cap fv i (fun q => body E U n q) := by
  subst ha
  intro q hq v ts w hst hl
  have HV := Lib.hid (hv q hq)
  have X0 := Ex.start hst h5 hbl q
  obtain ⟨x0, x1, x2, y0, y1, y2, y3, y4, z0, z1, z2, z3, z4⟩ := X0.c
  have HX := Lib.hid X0
  have HS := Lib.hid (hst.alloc (.cells #[.int .i64 q.l, .bool q.d, .bool q.i, .bool q.g, .bool q.s] 26))
  have HG := Lib.hid (show Gr w0.heap.size v v w (w.alloc (.cells #[.int .i64 q.l, .bool q.d, .bool q.i, .bool q.g, .bool q.s] 26)) from Gr.quiet ((Below.refl _ _).alloc (Nat.le_refl _) _))
  have HL := Lib.hid hl
  have HC := Lib.hid hc
  have hk1 : (0 : Int) ≤ (i : Int) := by omega
  have hk2 : (i : Int) < (m : Int) := by omega
  clear hl hst hv h5 X0 hc hi hq
  go_enter Tryz.func151, Tryz.ntmps151
  go_wp2_with fail
  refine (of_cond _ _ HC.out _).mono ?_
  rintro e w1 ⟨rfl, rfl⟩
  go_wp2_with fail
  refine (m_cond n ak ck q _ HC.out HV.out (HS.out.alloc _) HL.out).mono ?_
  rintro e w2 ⟨rfl, v2, s2, g2⟩
  have S2 := Lib.hid s2
  have G2 := Lib.hid (HG.out.trans ((Gr.quiet ((Below.refl _ _).alloc (Nat.le_refl _) _)).trans g2))
  clear s2 g2
  go_wp2
  go_end0
  exact ⟨rfl, v2, S2.out, G2.out⟩

set_option maxHeartbeats 1600000 in
theorem un_assign {w0 : World} {a : Option Addr} {m cap : Nat} {fv : Value} {l : List Nd} {i : Nat} {E U : Nat → Ps → List Tk} (n : Nd) (hc : n.k = 15) (hmx : m ≤ 1048576) (hi : i < m) (bl ol : Nat) (ha : a = some ⟨bl, ol, none⟩) (hbl : bl < w0.heap.size) (ak : Option Addr) (ck : Nat) (h5 : nd.Five w0 bl (ol + i * 5) n ak ck)
    (hv : ∀ p : Ps, posOk p.l p.d = true → Giv w0 a m cap fv l i n ak p E U) : CallE 151 w0 a m cap fv i (fun q => body E U n q) := by
  subst ha
  intro q hq v ts w hst hl
  have HV := Lib.hid (hv q hq)
  have X0 := Ex.start hst h5 hbl q
  obtain ⟨x0, x1, x2, y0, y1, y2, y3, y4, z0, z1, z2, z3, z4⟩ := X0.c
  have HX := Lib.hid X0
  have HS := Lib.hid (hst.alloc (.cells #[.int .i64 q.l, .bool q.d, .bool q.i, .bool q.g, .bool q.s] 26))
  have HG := Lib.hid (show Gr w0.heap.size v v w (w.alloc (.cells #[.int .i64 q.l, .bool q.d, .bool q.i, .bool q.g, .bool q.s] 26)) from Gr.quiet ((Below.refl _ _).alloc (Nat.le_refl _) _))
  have HL := Lib.hid hl
  have HC := Lib.hid hc
  have hk1 : (0 : Int) ≤ (i : Int) := by omega
  have hk2 : (i : Int) < (m : Int) := by omega
  clear hl hst hv h5 X0 hc hi hq
  go_enter Tryz.func151, Tryz.ntmps151
  go_wp2_with fail
  refine (of_assign _ _ HC.out _).mono ?_
  rintro e w1 ⟨rfl, rfl⟩
  go_wp2_with fail
  refine (m_assign n ak ck q _ HC.out HV.out (HS.out.alloc _) HL.out).mono ?_
  rintro e w2 ⟨rfl, v2, s2, g2⟩
  have S2 := Lib.hid s2
  have G2 := Lib.hid (HG.out.trans ((Gr.quiet ((Below.refl _ _).alloc (Nat.le_refl _) _)).trans g2))
  clear s2 g2
  go_wp2
  go_end0
  exact ⟨rfl, v2, S2.out, G2.out⟩

/-- Every kind of expression. -/
theorem un_any {w0 : World} {a : Option Addr} {m cap : Nat} {fv : Value} {l : List Nd} {i : Nat} {E U : Nat → Ps → List Tk} (n : Nd) (hg : et.Good l i n) (hmx : m ≤ 1048576) (hi : i < m) (bl ol : Nat) (ha : a = some ⟨bl, ol, none⟩) (hbl : bl < w0.heap.size) (ak : Option Addr) (ck : Nat) (h5 : nd.Five w0 bl (ol + i * 5) n ak ck)
    (hv : ∀ p : Ps, posOk p.l p.d = true → Giv w0 a m cap fv l i n ak p E U) : CallE 151 w0 a m cap fv i (fun q => body E U n q) := by
  have hr := expr_range hg.kind
  by_cases c1 : n.k = 1
  · exact un_name n c1 hmx hi bl ol ha hbl ak ck h5 hv
  by_cases c2 : n.k = 2
  · exact un_number n c2 hmx hi bl ol ha hbl ak ck h5 hv
  by_cases c3 : n.k = 3
  · exact un_str n c3 hmx hi bl ol ha hbl ak ck h5 hv
  by_cases c4 : n.k = 4
  · exact un_ere n c4 hmx hi bl ol ha hbl ak ck h5 hv
  by_cases c5 : n.k = 5
  · exact un_index n c5 hmx hi bl ol ha hbl ak ck h5 hv
  by_cases c6 : n.k = 6
  · exact un_field n c6 hmx hi bl ol ha hbl ak ck h5 hv
  by_cases c7 : n.k = 7
  · exact un_call n c7 hmx hi bl ol ha hbl ak ck h5 hv
  by_cases c8 : n.k = 8
  · exact un_builtin n c8 hmx hi bl ol ha hbl ak ck h5 hv
  by_cases c9 : n.k = 9
  · exact un_pre n c9 hmx hi bl ol ha hbl ak ck h5 hv
  by_cases c10 : n.k = 10
  · exact un_post n c10 hmx hi bl ol ha hbl ak ck h5 hv
  by_cases c11 : n.k = 11
  · exact un_unary n c11 hmx hi bl ol ha hbl ak ck h5 hv
  by_cases c12 : n.k = 12
  · exact un_binary n c12 hmx hi bl ol ha hbl ak ck h5 hv
  by_cases c13 : n.k = 13
  · exact un_in n c13 hmx hi bl ol ha hbl ak ck h5 hv
  by_cases c14 : n.k = 14
  · exact un_cond n c14 hmx hi bl ol ha hbl ak ck h5 hv
  exact un_assign n (by omega) hmx hi bl ol ha hbl ak ck h5 hv

/-- The writer at a right tree: what unenclosed and expr put, at each node. -/
theorem all_un {w0 : World} {a : Option Addr} {cap : Nat} {fv : Value} {l : List Nd} {enc : Nd → Ps → Bool} (ht : rt.treeOk l = true) (hmx : l.length ≤ 1048576) (hh : Held w0) (hc : nd.Lies w0.heap.size w0 a l)
    (hE : ∀ (U : Nat → Ps → List Tk) (i : Nat) (n : Nd), i < l.length → l.getD i default = n → CallE 151 w0 a l.length cap fv i (U i) → CallE 83 w0 a l.length cap fv i (par enc l U i)) :
    ∀ (f i : Nat), i < f → i < l.length → rt.isExpr (l.getD i default).k = true → CallE 151 w0 a l.length cap fv i (un enc l f i) := by
  intro f
  induction f with
  | zero => intro i hi; omega
  | succ f ih =>
    intro i hi hl hk
    obtain ⟨n, hn⟩ : ∃ n, l.getD i default = n := ⟨_, rfl⟩
    rw [hn] at hk
    have g := et.Good.at ht hl hn hk
    obtain ⟨bl, ol, ha, hbl, hnode⟩ := nd.lies_at hc hl
    obtain ⟨ak, ck, h5, hik⟩ := hnode i hl
    rw [← getD_at hl, hn] at h5 hik
    have e : un enc l (f + 1) i = fun q => body (ex enc l f) (un enc l f) n q := by
      funext q
      rw [un_succ, hn]
    rw [e]
    refine un_any n g hmx hl bl ol ha hbl ak ck h5 fun p hp => ⟨hh, g, hik, hp, fun K hK => ?_, fun h0 => ?_⟩
    · obtain ⟨k1, k2, k3⟩ := g.kids K hK
      exact hE (un enc l f) (et.kd n K) _ (by omega) rfl (ih (et.kd n K) (by omega) (by omega) k3)
    · obtain ⟨k1, k2, k3⟩ := g.kids 0 h0
      exact ih (et.kd n 0) (by omega) (by omega) k3
end Go.Proofs.YtiilpnoaocfjgaaGreatDoor.tw

namespace Go.Proofs.YtiilpnoaocfjgaaGreatDoor.tw
open Go.ChangeShapes Go.WideShapes Go.ChangeAt Go.RowKit
open tk (Tk)
open own
open nd (Nd Ints)
open ps (Ps posOk kidI top)
open spell (Held)
open et
set_option linter.unusedVariables false
set_option linter.unusedSimpArgs false
set_option maxRecDepth 20000

/-- What ExprTokens, FullTokens answer. -/
def etoks (l : List Nd) (p : Ps) : List Tk := if rt.exprOk l = true ∧ posOk p.l p.d = true then ex mis l l.length (l.length - 1) p else []
def ftoks (l : List Nd) : List Tk := if rt.exprOk l = true then ex full l l.length (l.length - 1) top else []
def Out (T : List Tk) (w : World) (e : Ending) (w' : World) : Prop := ∃ v, e = .returned v ∧ Below w.heap.size w w' ∧ own.Own w.heap.size v T w'
theorem expr_parts {l : List Nd} (h : rt.exprOk l = true) : rt.treeOk l = true ∧ 0 < l.length ∧ rt.isExpr (l.getD (l.length - 1) default).k = true := by
  unfold rt.exprOk at h
  rw [Bool.and_eq_true] at h
  refine ⟨h.1, ?_, h.2⟩
  have := (nd.shape_yes (tree_parts h.1).1).1
  omega
theorem etoks_len (l : List Nd) (p : Ps) : (etoks l p).length ≤ 3200 := by
  unfold etoks
  split
  · next h =>
    obtain ⟨h1, h2, h3⟩ := expr_parts h.1
    exact ex_len h1 (by omega) (by omega) h3
  · simp
theorem ftoks_len (l : List Nd) : (ftoks l).length ≤ 3200 := by
  unfold ftoks
  split
  · next h =>
    obtain ⟨h1, h2, h3⟩ := expr_parts h
    exact ex_len h1 (by omega) (by omega) h3
  · simp

set_option maxHeartbeats 1600000 in
theorem impl_ExprTokens (l : List Nd) (a : Option Addr) (cap : Nat) (p : Ps) (w : World) (hn : l.length ≤ 1048576) (hk : ∀ t ∈ l, t.kids.length ≤ 1048576) (hs : ∀ t ∈ l, t.s.size ≤ 1048576 ∧ t.t.size ≤ 1048576) (hc : nd.Lies w.heap.size w a l) (hh : Held w) :
    Calls Tryz.prog 24 #[.slice a l.length cap, .agg #[.int .i64 p.l, .bool p.d, .bool p.i, .bool p.g, .bool p.s]] w (Out (etoks l p) w) := by
  have HC := Lib.hid hc
  have HN := Lib.hid hn
  have HH := Lib.hid hh
  have HK := Lib.hid hk
  have HS := Lib.hid hs
  have HB0 := Lib.hid (show Below w.heap.size w (w.alloc (.cells #[.int .i64 p.l, .bool p.d, .bool p.i, .bool p.g, .bool p.s] 26)) from ((Below.refl w.heap.size w).alloc (Nat.le_refl _) _))
  clear hc hh hk hs
  cases hx : rt.exprOk l
  · have HE := Lib.hid (show etoks l p = [] by unfold etoks; rw [if_neg (by simp [hx])])
    have HX := Lib.hid hx
    go_enter Tryz.func24, Tryz.ntmps24
    go_wp2_with fail
    refine (rt.impl_expr l a cap _ HN.out HK.out HS.out (HC.out.on HB0.out (Nat.le_refl _)) (HH.out.below HB0.out)).mono ?_
    rw [HX.out]
    rintro e w1 ⟨rfl, b1⟩
    have B1 := Lib.hid (HB0.out.trans (b1.mono HB0.out.size))
    clear b1
    go_wp2
    go_ret
    refine ⟨.slice none 0 0, rfl, B1.out, ?_⟩
    rw [HE.out]
    exact own.Own.nil _ _
  have HX := Lib.hid hx
  cases hp : posOk p.l p.d
  · have HE := Lib.hid (show etoks l p = [] by unfold etoks; rw [if_neg (by simp [hp])])
    have HP := Lib.hid hp
    have HZ := Lib.hid (show ∀ w1, Below (w.alloc (.cells #[.int .i64 p.l, .bool p.d, .bool p.i, .bool p.g, .bool p.s] 26)).heap.size (w.alloc (.cells #[.int .i64 p.l, .bool p.d, .bool p.i, .bool p.g, .bool p.s] 26)) w1 → w1.cell? ⟨w.heap.size, 0, none⟩ = some (.int .i64 p.l) ∧ w1.cell? ⟨w.heap.size, 1, none⟩ = some (.bool p.d) ∧ w1.cell? ⟨w.heap.size, 2, none⟩ = some (.bool p.i) ∧ w1.cell? ⟨w.heap.size, 3, none⟩ = some (.bool p.g) ∧ w1.cell? ⟨w.heap.size, 4, none⟩ = some (.bool p.s) from fun w1 hb => by
      have hb1 := (hb.block w.heap.size (by simp)).trans (heap_alloc_new w (.cells #[.int .i64 p.l, .bool p.d, .bool p.i, .bool p.g, .bool p.s] 26))
      exact ⟨by rw [cell_of_row _ _ 0 _ _ _ hb1]; rfl, by rw [cell_of_row _ _ 1 _ _ _ hb1]; rfl, by rw [cell_of_row _ _ 2 _ _ _ hb1]; rfl, by rw [cell_of_row _ _ 3 _ _ _ hb1]; rfl, by rw [cell_of_row _ _ 4 _ _ _ hb1]; rfl⟩)
    clear hx hp
    go_enter Tryz.func24, Tryz.ntmps24
    go_wp2_with fail
    refine (rt.impl_expr l a cap _ HN.out HK.out HS.out (HC.out.on HB0.out (Nat.le_refl _)) (HH.out.below HB0.out)).mono ?_
    rw [HX.out]
    rintro e w1 ⟨rfl, b1⟩
    have B1 := Lib.hid (HB0.out.trans (b1.mono HB0.out.size))
    obtain ⟨p0, p1, p2, p3, p4⟩ := HZ.out w1 b1
    clear b1
    go_wp2_with fail
    refine (ps.impl_ok p.l p.d p.i p.g p.s _).mono ?_
    rw [HP.out]
    rintro e w2 ⟨rfl, b2⟩
    have B2 := Lib.hid (B1.out.trans (b2.mono B1.out.size))
    clear b2
    go_wp2
    go_ret
    refine ⟨.slice none 0 0, rfl, B2.out, ?_⟩
    rw [HE.out]
    exact own.Own.nil _ _
  have HE := Lib.hid (show etoks l p = ex mis l l.length (l.length - 1) p by unfold etoks; rw [if_pos ⟨hx, hp⟩])
  have HX := Lib.hid hx
  obtain ⟨ht, h0, hlast⟩ := expr_parts hx
  have HLEN := Lib.hid (show ([] : List Tk).length + (ex mis l l.length (l.length - 1) p).length ≤ 1048576 by have := ex_len (enc := mis) (f := l.length) (p := p) ht (by omega) (by omega) hlast; simp; omega)
  have HALL := Lib.hid (show ∀ w0 : World, Held w0 → nd.Lies w0.heap.size w0 a l → CallE 83 w0 a l.length cap (.func (.func 82) #[] #[]) (l.length - 1) (ex mis l l.length (l.length - 1)) from fun w0 hh hc =>
    have hEx : ∀ (U : Nat → Ps → List Tk) (i : Nat) (n : Nd), i < l.length → l.getD i default = n → CallE 151 w0 a l.length cap (.func (.func 82) #[] #[]) i (U i) → CallE 83 w0 a l.length cap (.func (.func 82) #[] #[]) i (par mis l U i) := fun U i n hi hn hU => expr_mis i n hh rfl HN.out hi hn hc hU
    hEx _ _ _ (by omega) rfl (all_un ht HN.out hh hc hEx l.length (l.length - 1) (by omega) (by omega) hlast))
  have HST := Lib.hid (show ∀ w0 : World, St w0 a l.length cap (.func (.func 82) #[] #[]) (.slice none 0 0) [] (w0.alloc (.cells #[.slice a l.length cap, (.func (.func 82) #[] #[]), .slice none 0 0] 113)) from fun w0 => ⟨(Below.refl _ _).alloc (Nat.le_refl _) _, heap_alloc_new w0 _, own.Own.nil _ _⟩)
  obtain ⟨N, hN⟩ : ∃ N, l.length = N := ⟨_, rfl⟩
  obtain ⟨k, hk⟩ : ∃ k, N = k + 1 := ⟨N - 1, by omega⟩
  have HPOS := Lib.hid (show posOk p.l p.d = true from hp)
  have HEX := Lib.hid (show ∀ w1, w1.heap.size ≥ 0 → nd.Lies w1.heap.size w1 a l → Held w1 → Calls Tryz.prog 76 #[.slice a l.length cap] w1 fun e w' => e = .returned (.bool true) ∧ Below w1.heap.size w1 w' from fun w1 _ h1 h2 => (rt.impl_expr l a cap w1 HN.out HK.out HS.out h1 h2).mono fun e w' h => by rw [HX.out] at h; exact h)
  rw [hN] at HALL HST HEX hn HLEN ⊢
  have hkk : N - 1 = k := by omega
  rw [hkk] at HALL HLEN
  have HKE := Lib.hid (show N - 1 = k from hkk)
  have HNE := Lib.hid hN
  have HCALL := Lib.hid (show ∀ w0 : World, Held w0 → nd.Lies w0.heap.size w0 a l → ∀ (v : Value) (ts : List Tk) (w : World), St w0 a N cap (.func (.func 82) #[] #[]) v ts w → ts.length + (ex mis l N k p).length ≤ 1048576 → Calls Tryz.prog 83 #[.pointer (some ⟨w0.heap.size, 0, none⟩), .int .i64 ((N : Int) - 1), .agg #[.int .i64 p.l, .bool p.d, .bool p.i, .bool p.g, .bool p.s]] w (Put w0 a N cap (.func (.func 82) #[] #[]) v ts (ex mis l N k p) w) from fun w0 hh hc v ts w hst hl => by
    have := HALL.out w0 hh hc p HPOS.out v ts w hst hl
    rw [show ((k : Nat) : Int) = (N : Int) - 1 by omega] at this
    exact this)
  have hN1 : (1 : Int) ≤ (N : Int) := by omega
  have HP := Lib.hid hp
  have HZ := Lib.hid (show ∀ w1, Below (w.alloc (.cells #[.int .i64 p.l, .bool p.d, .bool p.i, .bool p.g, .bool p.s] 26)).heap.size (w.alloc (.cells #[.int .i64 p.l, .bool p.d, .bool p.i, .bool p.g, .bool p.s] 26)) w1 → w1.cell? ⟨w.heap.size, 0, none⟩ = some (.int .i64 p.l) ∧ w1.cell? ⟨w.heap.size, 1, none⟩ = some (.bool p.d) ∧ w1.cell? ⟨w.heap.size, 2, none⟩ = some (.bool p.i) ∧ w1.cell? ⟨w.heap.size, 3, none⟩ = some (.bool p.g) ∧ w1.cell? ⟨w.heap.size, 4, none⟩ = some (.bool p.s) from fun w1 hb => by
    have hb1 := (hb.block w.heap.size (by simp)).trans (heap_alloc_new w (.cells #[.int .i64 p.l, .bool p.d, .bool p.i, .bool p.g, .bool p.s] 26))
    exact ⟨by rw [cell_of_row _ _ 0 _ _ _ hb1]; rfl, by rw [cell_of_row _ _ 1 _ _ _ hb1]; rfl, by rw [cell_of_row _ _ 2 _ _ _ hb1]; rfl, by rw [cell_of_row _ _ 3 _ _ _ hb1]; rfl, by rw [cell_of_row _ _ 4 _ _ _ hb1]; rfl⟩)
  clear hx ht h0 hlast hN hk hkk hp
  go_enter Tryz.func24, Tryz.ntmps24
  go_wp2_with fail
  refine (HEX.out _ (Nat.zero_le _) (HC.out.on HB0.out (Nat.le_refl _)) (HH.out.below HB0.out)).mono ?_
  rintro e w1 ⟨rfl, b1⟩
  have B1 := Lib.hid (HB0.out.trans (b1.mono HB0.out.size))
  obtain ⟨p0, p1, p2, p3, p4⟩ := HZ.out w1 b1
  have B01 := Lib.hid b1
  clear b1
  go_wp2_with fail
  refine (ps.impl_ok p.l p.d p.i p.g p.s _).mono ?_
  rw [HP.out]
  rintro e w2 ⟨rfl, b2⟩
  have B2 := Lib.hid (B1.out.trans (b2.mono B1.out.size))
  have HZ2 := Lib.hid (HZ.out _ ((B01.out.trans (b2.mono B01.out.size)).alloc (Nat.le_trans B01.out.size b2.size) (.cells #[.slice a N cap, (.func (.func 82) #[] #[]), .slice none 0 0] 113)))
  obtain ⟨q0, q1, q2, q3, q4⟩ := HZ2.out
  clear b2 p0 p1 p2 p3 p4
  have ST := Lib.hid (HST.out w2)
  obtain ⟨cW, hcW⟩ : ∃ cW, cW = w2 := ⟨_, rfl⟩
  go_wp2_with fail
  refine (HCALL.out w2 (HH.out.below B2.out) (HC.out.on B2.out (Nat.le_refl _)) _ _ _ ST.out HLEN.out).mono ?_
  rintro e w4 ⟨rfl, v4, s4, g4⟩
  obtain ⟨z0, z1, z2⟩ := s4.c
  have S4 := Lib.hid s4
  clear s4 g4
  go_wp2
  go_ret
  refine ⟨v4, rfl, B2.out.trans (S4.out.bel.mono B2.out.size), ?_⟩
  rw [HE.out, HNE.out, HKE.out]
  have := S4.out.own
  rw [List.nil_append] at this
  exact this.up (Nat.le_succ_of_le B2.out.size)

set_option maxHeartbeats 1600000 in
theorem impl_FullTokens (l : List Nd) (a : Option Addr) (cap : Nat) (w : World) (hn : l.length ≤ 1048576) (hk : ∀ t ∈ l, t.kids.length ≤ 1048576) (hs : ∀ t ∈ l, t.s.size ≤ 1048576 ∧ t.t.size ≤ 1048576) (hc : nd.Lies w.heap.size w a l) (hh : Held w) :
    Calls Tryz.prog 28 #[.slice a l.length cap] w (Out (ftoks l) w) := by
  have HC := Lib.hid hc
  have HN := Lib.hid hn
  have HH := Lib.hid hh
  have HK := Lib.hid hk
  have HS := Lib.hid hs
  have HB0 := Lib.hid (show Below w.heap.size w w from (Below.refl w.heap.size w))
  clear hc hh hk hs
  cases hx : rt.exprOk l
  · have HE := Lib.hid (show ftoks l = [] by unfold ftoks; rw [if_neg (by simp [hx])])
    have HX := Lib.hid hx
    go_enter Tryz.func28, Tryz.ntmps28
    go_wp2_with fail
    refine (rt.impl_expr l a cap _ HN.out HK.out HS.out (HC.out.on HB0.out (Nat.le_refl _)) (HH.out.below HB0.out)).mono ?_
    rw [HX.out]
    rintro e w1 ⟨rfl, b1⟩
    have B1 := Lib.hid (HB0.out.trans (b1.mono HB0.out.size))
    clear b1
    go_wp2
    go_ret
    refine ⟨.slice none 0 0, rfl, B1.out, ?_⟩
    rw [HE.out]
    exact own.Own.nil _ _
  have HE := Lib.hid (show ftoks l = ex full l l.length (l.length - 1) top by unfold ftoks; rw [if_pos hx])
  have HX := Lib.hid hx
  obtain ⟨ht, h0, hlast⟩ := expr_parts hx
  have HLEN := Lib.hid (show ([] : List Tk).length + (ex full l l.length (l.length - 1) top).length ≤ 1048576 by have := ex_len (enc := full) (f := l.length) (p := top) ht (by omega) (by omega) hlast; simp; omega)
  have HALL := Lib.hid (show ∀ w0 : World, Held w0 → nd.Lies w0.heap.size w0 a l → CallE 83 w0 a l.length cap (.func (.func 87) #[] #[]) (l.length - 1) (ex full l l.length (l.length - 1)) from fun w0 hh hc =>
    have hEx : ∀ (U : Nat → Ps → List Tk) (i : Nat) (n : Nd), i < l.length → l.getD i default = n → CallE 151 w0 a l.length cap (.func (.func 87) #[] #[]) i (U i) → CallE 83 w0 a l.length cap (.func (.func 87) #[] #[]) i (par full l U i) := fun U i n hi hn hU => expr_full i n hh rfl HN.out hi hn hc hU
    hEx _ _ _ (by omega) rfl (all_un ht HN.out hh hc hEx l.length (l.length - 1) (by omega) (by omega) hlast))
  have HST := Lib.hid (show ∀ w0 : World, St w0 a l.length cap (.func (.func 87) #[] #[]) (.slice none 0 0) [] (w0.alloc (.cells #[.slice a l.length cap, (.func (.func 87) #[] #[]), .slice none 0 0] 113)) from fun w0 => ⟨(Below.refl _ _).alloc (Nat.le_refl _) _, heap_alloc_new w0 _, own.Own.nil _ _⟩)
  obtain ⟨N, hN⟩ : ∃ N, l.length = N := ⟨_, rfl⟩
  obtain ⟨k, hk⟩ : ∃ k, N = k + 1 := ⟨N - 1, by omega⟩
  have HPOS := Lib.hid (show posOk top.l top.d = true from top_ok)
  have HEX := Lib.hid (show ∀ w1, w1.heap.size ≥ 0 → nd.Lies w1.heap.size w1 a l → Held w1 → Calls Tryz.prog 76 #[.slice a l.length cap] w1 fun e w' => e = .returned (.bool true) ∧ Below w1.heap.size w1 w' from fun w1 _ h1 h2 => (rt.impl_expr l a cap w1 HN.out HK.out HS.out h1 h2).mono fun e w' h => by rw [HX.out] at h; exact h)
  rw [hN] at HALL HST HEX hn HLEN ⊢
  have hkk : N - 1 = k := by omega
  rw [hkk] at HALL HLEN
  have HKE := Lib.hid (show N - 1 = k from hkk)
  have HNE := Lib.hid hN
  have HCALL := Lib.hid (show ∀ w0 : World, Held w0 → nd.Lies w0.heap.size w0 a l → ∀ (v : Value) (ts : List Tk) (w : World), St w0 a N cap (.func (.func 87) #[] #[]) v ts w → ts.length + (ex full l N k top).length ≤ 1048576 → Calls Tryz.prog 83 #[.pointer (some ⟨w0.heap.size, 0, none⟩), .int .i64 ((N : Int) - 1), .agg #[.int .i64 1, .bool false, .bool false, .bool false, .bool false]] w (Put w0 a N cap (.func (.func 87) #[] #[]) v ts (ex full l N k top) w) from fun w0 hh hc v ts w hst hl => by
    have := HALL.out w0 hh hc top HPOS.out v ts w hst hl
    rw [show ((k : Nat) : Int) = (N : Int) - 1 by omega] at this
    exact this)
  have hN1 : (1 : Int) ≤ (N : Int) := by omega
  clear hx ht h0 hlast hN hk hkk
  go_enter Tryz.func28, Tryz.ntmps28
  go_wp2_with fail
  refine (HEX.out _ (Nat.zero_le _) (HC.out.on HB0.out (Nat.le_refl _)) (HH.out.below HB0.out)).mono ?_
  rintro e w1 ⟨rfl, b1⟩
  have B1 := Lib.hid (HB0.out.trans (b1.mono HB0.out.size))
  have B2 := Lib.hid B1.out
  clear b1
  have ST := Lib.hid (HST.out w1)
  obtain ⟨cW, hcW⟩ : ∃ cW, cW = w1 := ⟨_, rfl⟩
  go_wp2_with fail
  refine (ps.impl_top _).mono ?_
  rintro e w3 ⟨rfl, b3⟩
  have ST3 := Lib.hid (ST.out.keep b3)
  clear b3
  go_wp2_with fail
  refine (HCALL.out w1 (HH.out.below B2.out) (HC.out.on B2.out (Nat.le_refl _)) _ _ _ ST3.out HLEN.out).mono ?_
  rintro e w4 ⟨rfl, v4, s4, g4⟩
  obtain ⟨z0, z1, z2⟩ := s4.c
  have S4 := Lib.hid s4
  clear s4 g4
  go_wp2
  go_ret
  refine ⟨v4, rfl, B2.out.trans (S4.out.bel.mono B2.out.size), ?_⟩
  rw [HE.out, HNE.out, HKE.out]
  have := S4.out.own
  rw [List.nil_append] at this
  exact this.up (Nat.le_succ_of_le B2.out.size)
end Go.Proofs.YtiilpnoaocfjgaaGreatDoor.tw

namespace Go.Proofs.YtiilpnoaocfjgaaGreatDoor.yd
open Go.ChangeShapes Go.WideShapes Go.ChangeAt Go.RowKit
open tk
set_option linter.unusedVariables false

/-- Is it a kind of tokens with texts of their own? -/
def isL (k : Int) : Bool := decide (3 ≤ k ∧ k ≤ 8)
def oc (l : List Tk) : Nat → Nat
  | 0 => 0
  | I + 1 => oc l I + if isL (l.getD I default).k = true then 1 else 0
theorem oc_le (l : List Tk) : ∀ I, oc l I ≤ I := by
  intro I
  induction I with
  | zero => exact Nat.le_refl _
  | succ I ih =>
    show oc l I + _ ≤ _
    split <;> omega
theorem oc_step {l : List Tk} {I : Nat} (h : I < l.length) : oc l (I + 1) = oc l I + if isL l[I].k = true then 1 else 0 := by
  show oc l I + _ = _
  rw [List.getD_eq_getElem?_getD, List.getElem?_eq_getElem h]
  rfl
theorem impl_is (k : Int) (w : World) : Calls Tryz.prog 91 #[.int .i64 k] w fun e w' => e = .returned (.bool (isL k)) ∧ w = w' := by
  by_cases h3 : 3 ≤ k
  · by_cases h8 : k ≤ 8
    · go_enter Tryz.func91, Tryz.ntmps91
      go_wp2
      all_goals
        go_ret
        exact ⟨congrArg (fun b => Ending.returned (Value.bool b)) (by first | (simp_all [isL]; done) | (simp_all [isL]; omega)), rfl⟩
    · go_enter Tryz.func91, Tryz.ntmps91
      go_wp2
      all_goals
        go_ret
        exact ⟨congrArg (fun b => Ending.returned (Value.bool b)) (by first | (simp_all [isL]; done) | (simp_all [isL]; omega)), rfl⟩
  · go_enter Tryz.func91, Tryz.ntmps91
    go_wp2
    all_goals
      go_ret
      exact ⟨congrArg (fun b => Ending.returned (Value.bool b)) (by first | (simp_all [isL]; done) | (simp_all [isL]; omega)), rfl⟩
theorem spec_is (k : Int) (w : World) : Calls Tryz.prog 210 #[.int .i64 k] w fun e w' => e = .returned (.bool (isL k)) ∧ w = w' := by
  go_enter Tryz.func210, Tryz.ntmps210
  go_wp2_with (go_at_call 86; refine (chars.spec_in _ _ _ _).mono ?_; rintro e w' ⟨rfl, rfl⟩)
  go_ret
  exact ⟨congrArg (fun b => Ending.returned (Value.bool b)) (by rw [Bool.eq_iff_iff]; simp [isL, chars.inR]), rfl⟩

def RelO (w : World) (l : List Tk) (n i : Value) (wr : World) : Prop :=
  ∃ I : Nat, I ≤ l.length ∧ i = .int .i64 (I : Int) ∧ n = .int .i64 (oc l I : Int) ∧ Below w.heap.size w wr

set_option maxHeartbeats 1600000 in
theorem impl_operands (l : List Tk) (a : Option Addr) (cap : Nat) (w : World) (hn : l.length ≤ 1048576) (hc : Lies w.heap.size w a l) :
    Calls Tryz.prog 35 #[.slice a l.length cap] w fun e w' => e = .returned (.int .i64 (oc l l.length : Int)) ∧ Below w.heap.size w w' := by
  have HC := Lib.hid hc
  clear hc
  obtain ⟨n, hln⟩ : ∃ n, n = l.length := ⟨_, rfl⟩
  have HLN := Lib.hid hln
  rw [← hln]
  rw [← hln] at hn
  clear hln
  go_enter Tryz.func35, Tryz.ntmps35
  go_wp2
  go_loopw [3, 8] (fun m i wr => RelO w l m i wr) (fun _ i _ => n - (intOf i).toNat)
  case atStart => exact ⟨0, by omega, rfl, rfl, Below.refl _ _⟩
  case round =>
    obtain ⟨I, hI, rfl, rfl, hbel⟩ := hrel
    have HB := Lib.hid hbel
    rw [← HLN.out] at hI
    clear hbel
    have hpl := oc_le l I
    obtain ⟨P, hP⟩ : ∃ P, P = oc l I := ⟨_, rfl⟩
    rw [← hP] at hpl ⊢
    have HP := Lib.hid hP
    clear hP
    by_cases hlt : I < n
    · have hltl : I < l.length := by have := HLN.out; omega
      obtain ⟨b, o, rfl, hb, hcell⟩ := lies_at HC.out hltl
      obtain ⟨c0, c1, c2⟩ := (hcell I hltl).keep HB.out hb
      have HST := Lib.hid (oc_step hltl)
      obtain ⟨t, ht⟩ : ∃ t, t = l[I] := ⟨_, rfl⟩
      rw [← ht] at c0 c1 c2 HST
      clear hcell ht
      have hi1 : (I : Int) < (n : Int) := by omega
      cases hq : isL t.k
      · have HREL := Lib.hid (show ∀ wr', Below w.heap.size w wr' → RelO w l (.int .i64 (P : Int)) (.int .i64 ((I : Int) + 1)) wr' from fun wr' hb' => ⟨I + 1, by have := HLN.out; omega, rfl, by rw [HST.out, hq, ← HP.out]; rfl, hb'⟩)
        have HQ := Lib.hid hq
        clear hq
        go_wp2_with (go_at_call 91; refine (impl_is _ _).mono ?_; rw [HQ.out]; rintro e w' ⟨rfl, rfl⟩)
        go_roundw
        case rel => exact HREL.out _ ((Below.refl _ _).alloc HB.out.size _ |> HB.out.trans)
        case measure => simp [intOf]; omega
      · have HREL := Lib.hid (show ∀ wr', Below w.heap.size w wr' → RelO w l (.int .i64 ((P : Int) + 1)) (.int .i64 ((I : Int) + 1)) wr' from fun wr' hb' => ⟨I + 1, by have := HLN.out; omega, rfl, by rw [HST.out, hq, ← HP.out]; rfl, hb'⟩)
        have HQ := Lib.hid hq
        clear hq
        go_wp2_with (go_at_call 91; refine (impl_is _ _).mono ?_; rw [HQ.out]; rintro e w' ⟨rfl, rfl⟩)
        go_roundw
        case rel => exact HREL.out _ ((Below.refl _ _).alloc HB.out.size _ |> HB.out.trans)
        case measure => simp [intOf]; omega
    · obtain rfl : I = n := by omega
      go_wp2
      go_ret
      exact ⟨by rw [HP.out]; rfl, HB.out⟩

set_option maxHeartbeats 1600000 in
theorem spec_operands (l : List Tk) (a : Option Addr) (cap : Nat) (w : World) (hn : l.length ≤ 1048576) (hc : Lies w.heap.size w a l) :
    Calls Tryz.prog 135 #[.slice a l.length cap] w fun e w' => e = .returned (.int .i64 (oc l l.length : Int)) ∧ Below w.heap.size w w' := by
  have HC := Lib.hid hc
  clear hc
  obtain ⟨n, hln⟩ : ∃ n, n = l.length := ⟨_, rfl⟩
  have HLN := Lib.hid hln
  rw [← hln]
  rw [← hln] at hn
  clear hln
  go_enter Tryz.func135, Tryz.ntmps135
  go_wp2
  go_loopw [3, 4] (fun m i wr => RelO w l m i wr) (fun _ i _ => n - (intOf i).toNat)
  case atStart => exact ⟨0, by omega, rfl, rfl, Below.refl _ _⟩
  case round =>
    obtain ⟨I, hI, rfl, rfl, hbel⟩ := hrel
    have HB := Lib.hid hbel
    rw [← HLN.out] at hI
    clear hbel
    have hpl := oc_le l I
    obtain ⟨P, hP⟩ : ∃ P, P = oc l I := ⟨_, rfl⟩
    rw [← hP] at hpl ⊢
    have HP := Lib.hid hP
    clear hP
    by_cases hlt : I < n
    · have hltl : I < l.length := by have := HLN.out; omega
      obtain ⟨b, o, rfl, hb, hcell⟩ := lies_at HC.out hltl
      obtain ⟨c0, c1, c2⟩ := (hcell I hltl).keep HB.out hb
      have HST := Lib.hid (oc_step hltl)
      obtain ⟨t, ht⟩ : ∃ t, t = l[I] := ⟨_, rfl⟩
      rw [← ht] at c0 c1 c2 HST
      clear hcell ht
      have hi1 : (I : Int) < (n : Int) := by omega
      cases hq : isL t.k
      · have HREL := Lib.hid (show RelO w l (.int .i64 (P : Int)) (.int .i64 ((I : Int) + 1)) wr from ⟨I + 1, by have := HLN.out; omega, rfl, by rw [HST.out, hq, ← HP.out]; rfl, HB.out⟩)
        have HQ := Lib.hid hq
        clear hq
        go_wp2_with (go_at_call 210; refine (spec_is _ _).mono ?_; rw [HQ.out]; rintro e w' ⟨rfl, rfl⟩)
        go_roundw
        case rel => exact HREL.out
        case measure => simp [intOf]; omega
      · have HREL := Lib.hid (show RelO w l (.int .i64 ((P : Int) + 1)) (.int .i64 ((I : Int) + 1)) wr from ⟨I + 1, by have := HLN.out; omega, rfl, by rw [HST.out, hq, ← HP.out]; rfl, HB.out⟩)
        have HQ := Lib.hid hq
        clear hq
        go_wp2_with (go_at_call 210; refine (spec_is _ _).mono ?_; rw [HQ.out]; rintro e w' ⟨rfl, rfl⟩)
        go_roundw
        case rel => exact HREL.out
        case measure => simp [intOf]; omega
    · obtain rfl : I = n := by omega
      go_wp2
      go_ret
      exact ⟨by rw [HP.out]; rfl, HB.out⟩
end Go.Proofs.YtiilpnoaocfjgaaGreatDoor.yd

namespace Go.Proofs.YtiilpnoaocfjgaaGreatDoor.yd
open tk (Tk)
open nd (Nd)
open ps (Ps top)
open rt (treeOk isExpr)
open et
set_option linter.unusedVariables false
set_option linter.unusedSimpArgs false
set_option maxRecDepth 20000

def keepL (l : List Tk) : List Tk := l.filter fun t => isL t.k
theorem keep_nil : keepL [] = [] := rfl
theorem keep_app (a b : List Tk) : keepL (a ++ b) = keepL a ++ keepL b := List.filter_append ..
theorem keep_yes {t : Tk} (h : isL t.k = true) (l : List Tk) : keepL (t :: l) = t :: keepL l := List.filter_cons_of_pos (by simpa using h)
theorem keep_no {t : Tk} (h : isL t.k = false) (l : List Tk) : keepL (t :: l) = keepL l := List.filter_cons_of_neg (by simp [h])

def pre (n : Nd) : List Tk := if n.k = 5 then [nam 6 n.s] else if n.k = 7 then [nam 7 n.s] else if n.k = 8 then [nam 8 n.s] else []
def suf (n : Nd) : List Tk := if n.k = 13 then [nam 6 n.s] else []
def lf (n : Nd) : List Tk := if n.k = 1 then [nam 6 n.s] else if n.k = 2 then [nam 3 n.s] else if n.k = 3 then [nam 4 n.s] else if n.k = 4 then [nam 5 n.s] else []
def kids (Y : Nat → List Tk) (n : Nd) : Nat → List Tk
  | 0 => []
  | J + 1 => kids Y n J ++ Y (kd n J)
def yn (Y : Nat → List Tk) (n : Nd) : List Tk := pre n ++ kids Y n n.kids.length ++ suf n ++ lf n
def yl (l : List Nd) : Nat → Nat → List Tk
  | 0, _ => []
  | f + 1, i => yn (yl l f) (l.getD i default)
theorem yl_succ (l : List Nd) (f i : Nat) : yl l (f + 1) i = yn (yl l f) (l.getD i default) := rfl

/-- More of a node of a right tree. -/
theorem node_more {l : List Nd} (h : treeOk l = true) {i : Nat} (hi : i < l.length) {n : Nd} (hn : l.getD i default = n) (hk : isExpr n.k = true) : (n.k ≤ 4 → n.kids.length = 0) ∧ ((n.k = 9 ∨ n.k = 10 ∨ n.k = 11 ∨ n.k = 12 ∨ n.k = 15) → isL n.op = false) := by
  rw [getD_at hi] at hn
  subst hn
  obtain ⟨hf, -⟩ := tree_node h hi
  have hr := expr_range hk
  obtain ⟨n, hn⟩ : ∃ n, n = l[i] := ⟨_, rfl⟩
  rw [← hn] at hf hr hk ⊢
  unfold rt.nodeF at hf
  obtain ⟨hop, hl1, hl2⟩ := rt.fields_parts hf
  have hlim : rt.lim n.kids.length n.k n.op n.t = rt.lim0 n.k n.op n.t := by unfold rt.lim; rw [if_neg (by omega)]
  rw [hlim] at hl1 hl2
  refine ⟨fun h4 => ?_, fun hc => ?_⟩
  · have e : rt.lim0 n.k n.op n.t = (0, 0) := by
      have : n.k = 1 ∨ n.k = 2 ∨ n.k = 3 ∨ n.k = 4 := by omega
      rcases this with h | h | h | h <;> simp [rt.lim0, h]
    rw [e] at hl2
    simp at hl2
    exact List.length_eq_zero_iff.2 hl2
  · have hb : ¬ (3 ≤ n.op ∧ n.op ≤ 8) := by
      rcases hc with h | h | h | h | h <;> rw [h] at hop <;> simp [rt.opOk, rt.isBin, chars.inR] at hop <;> omega
    unfold isL
    exact decide_eq_false hb

theorem keep_tok {k : Int} (h : isL k = false) (l : List Tk) : keepL (tok k :: l) = keepL l := keep_no h l
theorem keep_nam {k : Int} (h : isL k = true) (s : ByteArray) (l : List Tk) : keepL (nam k s :: l) = nam k s :: keepL l := keep_yes h l

theorem keep_lst {E : Nat → Ps → List Tk} {Y : Nat → List Tk} {n : Nd} : ∀ J, J ≤ n.kids.length → (∀ j, j < n.kids.length → keepL (E (kd n j) top) = Y (kd n j)) → keepL (lst E n J) = kids Y n J := by
  intro J
  induction J with
  | zero => intro _ _; rfl
  | succ J ih =>
    intro hJ hE
    have h1 := ih (by omega) hE
    have h2 := hE J (by omega)
    simp only [lst, keep_app, kids, h1, h2]
    split
    · simp [keep_nil]
    · simp [keep_nil, keep_tok (show isL 36 = false from rfl)]
theorem keep_brack {E : Nat → Ps → List Tk} {Y : Nat → List Tk} {n : Nd} {a b : Int} (ha : isL a = false) (hb : isL b = false) (hE : ∀ j, j < n.kids.length → keepL (E (kd n j) top) = Y (kd n j)) : keepL (brack E n a b) = kids Y n n.kids.length := by
  unfold brack
  rw [keep_tok ha, keep_app, keep_tok hb, keep_nil, List.append_nil, keep_lst _ (Nat.le_refl _) hE]

theorem keep_un {enc : Nd → Ps → Bool} {l : List Nd} (h : treeOk l = true) : ∀ (f i : Nat) (p : Ps), i < f → i < l.length → isExpr (l.getD i default).k = true → keepL (un enc l f i p) = yl l f i := by
  intro f
  induction f with
  | zero => intro i p hi; omega
  | succ f ih =>
    intro i p hi hl hk
    obtain ⟨n, hn⟩ : ∃ n, l.getD i default = n := ⟨_, rfl⟩
    rw [hn] at hk
    have g := Good.at h hl hn hk
    obtain ⟨m4, mop⟩ := node_more h hl hn hk
    rw [un_succ, yl_succ, hn]
    have hU : ∀ j q, j < n.kids.length → keepL (un enc l f (kd n j) q) = yl l f (kd n j) := fun j q hj => by
      obtain ⟨k1, k2, k3⟩ := g.kids j hj
      exact ih (kd n j) q (by omega) (by omega) k3
    have hE : ∀ j q, j < n.kids.length → keepL (ex enc l f (kd n j) q) = yl l f (kd n j) := fun j q hj => by
      unfold ex par
      split
      · rw [keep_tok rfl, keep_app, keep_tok rfl, keep_nil, List.append_nil]
        exact hU j top hj
      · exact hU j q hj
    have hL := fun a b (ha : isL a = false) (hb : isL b = false) => keep_brack (E := ex enc l f) (Y := yl l f) (n := n) ha hb (fun j hj => hE j top hj)
    have hr := expr_range hk
    unfold yn pre suf lf
    have h2 : n.kids.length = 2 → kids (yl l f) n n.kids.length = yl l f (kd n 0) ++ yl l f (kd n 1) := fun e => by rw [e]; rfl
    have h1 : n.kids.length = 1 → kids (yl l f) n n.kids.length = yl l f (kd n 0) := fun e => by rw [e]; rfl
    have h3 : n.kids.length = 3 → kids (yl l f) n n.kids.length = yl l f (kd n 0) ++ yl l f (kd n 1) ++ yl l f (kd n 2) := fun e => by rw [e]; rfl
    have h0 : n.kids.length = 0 → kids (yl l f) n n.kids.length = [] := fun e => by rw [e]; rfl
    by_cases c1 : n.k = 1
    · rw [body_1 c1, h0 (m4 (by omega))]; simp [c1, keep_nam, keep_nil, isL]
    by_cases c2 : n.k = 2
    · rw [body_2 c2, h0 (m4 (by omega))]; simp [c2, keep_nam, keep_nil, isL]
    by_cases c3 : n.k = 3
    · rw [body_3 c3, h0 (m4 (by omega))]; simp [c3, keep_nam, keep_nil, isL]
    by_cases c4 : n.k = 4
    · rw [body_4 c4, h0 (m4 (by omega))]; simp [c4, keep_nam, keep_nil, isL]
    by_cases c5 : n.k = 5
    · rw [body_5 c5, keep_nam rfl, hL _ _ rfl rfl]; simp [c5]
    by_cases c6 : n.k = 6
    · have e := g.one (by omega); rw [body_6 c6, keep_tok rfl, hE 0 _ (by omega), h1 e]; simp [c6]
    by_cases c7 : n.k = 7
    · rw [body_7 c7, keep_nam rfl, hL _ _ rfl rfl]; simp [c7]
    by_cases c8 : n.k = 8
    · rw [body_8 c8, keep_nam rfl, hL _ _ rfl rfl]; simp [c8]
    by_cases c9 : n.k = 9
    · have e := g.one (by omega); rw [body_9 c9, keep_tok (mop (by omega)), hU 0 _ (by omega), h1 e]; simp [c9]
    by_cases c10 : n.k = 10
    · have e := g.one (by omega); rw [body_10 c10, keep_app, keep_tok (mop (by omega)), hU 0 _ (by omega), h1 e]; simp [c10, keep_nil]
    by_cases c11 : n.k = 11
    · have e := g.one (by omega); rw [body_11 c11, keep_tok (mop (by omega)), hE 0 _ (by omega), h1 e]; simp [c11]
    by_cases c12 : n.k = 12
    · have e := g.two (by omega)
      rw [body_12 c12, keep_app, keep_app, hE 0 _ (by omega), hE 1 _ (by omega), h2 e]
      by_cases h99 : n.op = 99
      · simp [h99, c12, keep_nil]
      · simp [h99, c12, keep_nil, keep_tok (mop (by omega))]
    by_cases c13 : n.k = 13
    · have e := g.least (by omega)
      rw [body_13 c13, keep_app, keep_tok rfl, keep_nam rfl, keep_nil]
      by_cases h1' : 1 < n.kids.length
      · rw [if_pos h1', hL _ _ rfl rfl]; simp [c13]
      · rw [if_neg h1', hE 0 _ (by omega), h1 (by omega)]; simp [c13]
    by_cases c14 : n.k = 14
    · have e := g.three (by omega)
      rw [body_14 c14, keep_app, keep_tok rfl, keep_app, keep_tok rfl, hE 0 _ (by omega), hE 1 _ (by omega), hE 2 _ (by omega), h3 e]; simp [c14]
    · have c15 : n.k = 15 := by omega
      have e := g.two (by omega)
      rw [body_15 c15, keep_app, keep_tok (mop (by omega)), hU 0 _ (by omega), hE 1 _ (by omega), h2 e]; simp [c15]
theorem keep_ex {enc : Nd → Ps → Bool} {l : List Nd} (h : treeOk l = true) {f i : Nat} {p : Ps} (hi : i < f) (hl : i < l.length) (hk : isExpr (l.getD i default).k = true) : keepL (ex enc l f i p) = yl l f i := by
  unfold ex par
  split
  · rw [keep_tok rfl, keep_app, keep_tok rfl, keep_nil, List.append_nil]
    exact keep_un h f i _ hi hl hk
  · exact keep_un h f i _ hi hl hk

/-- How many there are: at most as many as there are tokens. -/
theorem keep_len (l : List Tk) : (keepL l).length ≤ l.length := List.length_filter_le ..
end Go.Proofs.YtiilpnoaocfjgaaGreatDoor.yd

namespace Go.Proofs.YtiilpnoaocfjgaaGreatDoor.yd
open Go.ChangeShapes Go.WideShapes Go.ChangeAt Go.RowKit
open tk (Tk)
open own
open nd (Nd)
open ps (Ps top)
open spell (Held)
open et
set_option linter.unusedVariables false
set_option linter.unusedSimpArgs false
set_option maxRecDepth 20000

theorem take_yes {T : List Tk} {I : Nat} (h : I < T.length) (hq : isL T[I].k = true) : keepL (T.take (I + 1)) = keepL (T.take I) ++ [T[I]] := by
  rw [List.take_succ_eq_append_getElem h, keep_app, keep_yes hq, keep_nil]
theorem take_no {T : List Tk} {I : Nat} (h : I < T.length) (hq : isL T[I].k = false) : keepL (T.take (I + 1)) = keepL (T.take I) := by
  rw [List.take_succ_eq_append_getElem h, keep_app, keep_no hq, keep_nil, List.append_nil]
def RelY (W : World) (T : List Tk) (o i : Value) (wr : World) : Prop :=
  ∃ I : Nat, I ≤ T.length ∧ i = .int .i64 (I : Int) ∧ own.Own W.heap.size o (keepL (T.take I)) wr ∧ Below W.heap.size W wr

set_option maxHeartbeats 3200000 in
theorem impl_yield (l : List Nd) (a : Option Addr) (cap : Nat) (w : World) (hn : l.length ≤ 1048576) (hk : ∀ t ∈ l, t.kids.length ≤ 1048576) (hs : ∀ t ∈ l, t.s.size ≤ 1048576 ∧ t.t.size ≤ 1048576) (hc : nd.Lies w.heap.size w a l) (hh : Held w) :
    Calls Tryz.prog 36 #[.slice a l.length cap] w (tw.Out (keepL (tw.etoks l top)) w) := by
  have HC := Lib.hid hc
  have HN := Lib.hid hn
  have HH := Lib.hid hh
  have HK := Lib.hid hk
  have HS := Lib.hid hs
  have htl := tw.etoks_len l top
  obtain ⟨T, hT⟩ : ∃ T, T = tw.etoks l top := ⟨_, rfl⟩
  rw [← hT] at htl ⊢
  have HT := Lib.hid hT
  clear hc hh hk hs hT
  go_enter Tryz.func36, Tryz.ntmps36
  go_wp2_with fail
  refine (ps.impl_top _).mono ?_
  rintro e w1 ⟨rfl, b1⟩
  have B1 := Lib.hid b1
  clear b1
  go_wp2_with fail
  refine (tw.impl_ExprTokens l a cap top w1 HN.out HK.out HS.out (HC.out.on B1.out (Nat.le_refl _)) (HH.out.below B1.out)).mono ?_
  rintro e W ⟨v2, rfl, b2, o2⟩
  rw [← HT.out] at o2
  obtain ⟨a2, c2, rfl⟩ := o2.form
  have B2 := Lib.hid (B1.out.trans (b2.mono B1.out.size))
  have L2 := Lib.hid (o2.lies rfl)
  obtain ⟨n, hln⟩ : ∃ n, n = T.length := ⟨_, rfl⟩
  have HLN := Lib.hid hln
  rw [← hln]
  rw [← hln] at htl
  clear b2 o2 hln
  go_wp2
  go_loopw [3, 10] (fun o i wr => RelY W T o i wr) (fun _ i _ => n - (intOf i).toNat)
  case atStart => exact ⟨0, by omega, rfl, own.Own.nil _ _, Below.refl _ _⟩
  case round =>
    obtain ⟨I, hI, rfl, own1, b3⟩ := hrel
    have O3 := Lib.hid own1
    have B3 := Lib.hid b3
    rw [← HLN.out] at hI
    clear own1 b3
    by_cases hlt : I < n
    · have hltl : I < T.length := by have := HLN.out; omega
      obtain ⟨b, o, rfl, hb, hcell⟩ := tk.lies_at L2.out hltl
      obtain ⟨c0, c1, c2⟩ := (hcell I hltl).keep B3.out hb
      have TY := Lib.hid (take_yes hltl)
      have TN := Lib.hid (take_no hltl)
      have hd : (keepL (T.take I)).length ≤ 1048576 := by have := keep_len (T.take I); have := List.length_take (i := I) (l := T); omega
      obtain ⟨d, hde⟩ : ∃ d, d = keepL (T.take I) := ⟨_, rfl⟩
      rw [← hde] at O3 TY TN hd
      obtain ⟨t, ht⟩ : ∃ t, t = T[I] := ⟨_, rfl⟩
      rw [← ht] at c0 c1 c2 TY TN
      obtain ⟨ad, cd, rfl⟩ := O3.out.form
      clear hcell ht hde
      have hi1 : (I : Int) < (n : Int) := by omega
      have hsz := B3.out.size
      have HBA := Lib.hid (show Below W.heap.size W (wr.alloc (.cells #[.int .i64 t.k, .string t.s, .int .i64 t.a] 35)) from B3.out.alloc B3.out.size _)
      have HOA := Lib.hid (show own.Own W.heap.size (.slice ad d.length cd) d (wr.alloc (.cells #[.int .i64 t.k, .string t.s, .int .i64 t.a] 35)) from O3.out.keep ((Below.refl wr.heap.size wr).alloc (Nat.le_refl _) _) (Nat.le_refl _))
      cases hq : isL t.k
      · have HQ := Lib.hid hq
        have TN2 := Lib.hid (TN.out hq)
        clear hq TY TN
        go_wp2_with (go_at_call 91; refine (impl_is _ _).mono ?_; rw [HQ.out]; rintro e w' ⟨rfl, rfl⟩)
        go_roundw
        case rel => exact ⟨I + 1, by have := HLN.out; omega, by go_num, by rw [TN2.out]; exact HOA.out, HBA.out⟩
        case measure => simp [intOf]; omega
      · have HQ := Lib.hid hq
        have TY2 := Lib.hid (TY.out hq)
        clear hq TY TN
        go_wp2_with (first | (go_at_call 91; refine (impl_is _ _).mono ?_; rw [HQ.out]; rintro e w' ⟨rfl, rfl⟩) | (at_builtin; refine wpList_append_tok (wr.alloc (.cells #[.int .i64 t.k, .string t.s, .int .i64 t.a] 35)) ⟨t.k, t.s, t.a⟩ rfl _ _ rfl W.heap.size _ d rfl HOA.out (by simp [Act.eval]) ?n1 ?n2 ?n3))
        case n1 => omega
        case n2 => simp; omega
        case n3 =>
          intro v' w3 hown' b3 g3
          have HO := Lib.hid hown'
          have HB4 := Lib.hid (HBA.out.trans b3)
          clear hown' b3 g3
          go_wp2
          go_roundw
          case rel => exact ⟨I + 1, by have := HLN.out; omega, by go_num, by rw [TY2.out]; exact HO.out, HB4.out⟩
          case measure => simp [intOf]; omega
    · obtain rfl : I = n := by omega
      have HE := Lib.hid (show T.take I = T by rw [HLN.out, List.take_length])
      go_wp2
      go_ret
      exact ⟨u3, rfl, B2.out.trans (B3.out.mono B2.out.size), by rw [HE.out] at O3; exact O3.out.up B2.out.size⟩
end Go.Proofs.YtiilpnoaocfjgaaGreatDoor.yd

namespace Go.Proofs.YtiilpnoaocfjgaaGreatDoor.st
open Go.ChangeShapes Go.WideShapes Go.ChangeAt Go.RowKit
open tk (Tk)
open nd (Nd)
open ps (Ps posOk top)
open et
set_option linter.unusedVariables false
set_option linter.unusedSimpArgs false
set_option maxRecDepth 20000

theorem flat_len (l : List Tk) : (own.flat l).length = l.length * 3 := by
  induction l with
  | nil => rfl
  | cons t l ih => simp only [own.flat, List.length_cons, ih]; omega
theorem flat_one : ∀ (l : List Tk), ∀ u ∈ own.flat l, u.oneCell' = true := by
  intro l
  induction l with
  | nil => intro u hu; simp [own.flat] at hu
  | cons t l ih =>
    intro u hu
    simp only [own.flat, List.mem_cons] at hu
    rcases hu with rfl | rfl | rfl | hu
    · rfl
    · rfl
    · rfl
    · exact ih u hu

/-- 'append(d, xs...)', both of one's own. -/
theorem wp_toks {o : Oper} {a : Act} {w : World} {K : Act → World → Prop} {Q : Exit → Act → World → Prop} (s x : Operand)
    (ho : o.op = .call { callee := .builtin .append, args := #[s, x], argTypes := #[24, 24] }) (B : Nat) (v : Value) (d : List Tk) (hs : a.eval s = v)
    (hown : own.Own B v d w) (B' : Nat) (u : Value) (xs : List Tk) (hx : a.eval x = u) (hu : own.Own B' u xs w) (hn : d.length + xs.length ≤ 1048576) (hB : B ≤ w.heap.size)
    (h : ∀ v' w', own.Own B v' (d ++ xs) w' → Below B w w' → w.grownBy w' v.ownBlock → K (a.put o.dst v') w') : Oper.wp Tryz.prog o a w K Q := by
  obtain ⟨i0, hi, hz0, hz1, hz2⟩ := info_parts tk.Tryz.infoTok
  rcases hu.2 with ⟨rfl, h0⟩ | ⟨g, cap, cur, rfl, hg, hblk, hl, hcm, hcs, htk⟩
  · obtain rfl : xs = [] := List.length_eq_zero_iff.1 h0
    have hrun := run_append_owned_none (P := Tryz.prog) (w := w) B 24 o.type 35 i0 3 Tryz.underlying24 hi v d.length (own.flat d) hown
    have := h v w (by rw [List.append_nil]; exact hown) (Below.refl _ _) ⟨rfl, rfl, rfl, Nat.le_refl _, fun _ _ _ => rfl⟩
    unfold Oper.wp
    simp [execOp, ho, resolve, invoke, builtin, hs, hx, hrun, Result.andThen]
    exact this
  · refine wp_append_own w s x 24 ho B 35 i0 _ 3 32 Tryz.underlying24 hi hz0 hz1 hz2 rfl (by decide) v d.length (own.flat d) hs hown ⟨g, 0, none⟩ xs.length cap (own.flat xs) hx (flat_len xs) ?_ (flat_one xs) (by unfold maxLen; omega) (by omega) hB ?_
    · intro j u hj
      rw [show ((⟨g, 0, none⟩ : Addr).add j) = ⟨g, j, none⟩ by unfold Addr.add; split <;> simp_all]
      rw [cell_of_row w g j _ _ _ hblk]
      rw [← htk, List.getElem?_take] at hj
      split at hj
      · simpa using hj
      · cases hj
    · intro v' w' hown' hg' _
      refine h v' w' ?_ ?_ hg'
      · unfold own.Own
        rw [own.flat_append, List.length_append]
        exact hown'
      · exact (Below.refl B w).grown hg' hB (fun k hk => (World.ownsRow.lt hown k hk).1)
theorem wpList_toks {ops : Array Oper} {rest : List Oper} {o : Oper} {a : Act} {w : World} {Q : Exit → Act → World → Prop} (hgd : o.guard = none) (s x : Operand)
    (ho : o.op = .call { callee := .builtin .append, args := #[s, x], argTypes := #[24, 24] }) (B : Nat) (v : Value) (d : List Tk) (hs : a.eval s = v)
    (hown : own.Own B v d w) (B' : Nat) (u : Value) (xs : List Tk) (hx : a.eval x = u) (hu : own.Own B' u xs w) (hn : d.length + xs.length ≤ 1048576) (hB : B ≤ w.heap.size)
    (h : ∀ v' w', own.Own B v' (d ++ xs) w' → Below B w w' → w.grownBy w' v.ownBlock → wpList Tryz.prog ops Q rest (a.put o.dst v') w') : wpList Tryz.prog ops Q (o :: rest) a w :=
  wpList_plain hgd fun _ hK => wp_toks s x ho B v d hs hown B' u xs hx hu hn hB fun v' w' h1 h2 h3 => hK _ _ (h v' w' h1 h2 h3)
theorem step_toks {ops : Array Oper} {o : Oper} {a : Act} {w : World} {K : Act → World → Prop} {Q : Exit → Act → World → Prop} {E : Prop} (hgd : o.guard = none) (s x : Operand)
    (ho : o.op = .call { callee := .builtin .append, args := #[s, x], argTypes := #[24, 24] }) (B : Nat) (v : Value) (d : List Tk) (hs : a.eval s = v)
    (hown : own.Own B v d w) (B' : Nat) (u : Value) (xs : List Tk) (hx : a.eval x = u) (hu : own.Own B' u xs w) (hn : d.length + xs.length ≤ 1048576) (hB : B ≤ w.heap.size)
    (h : ∀ v' w', own.Own B v' (d ++ xs) w' → Below B w w' → w.grownBy w' v.ownBlock → K (a.put o.dst v') w') : if Region.wanted o (yielded ops a.tmps) = true then Oper.wp Tryz.prog o a w K Q else E := by
  have hw : Region.wanted o (yielded ops a.tmps) = true := by simp [Region.wanted, hgd]
  rw [if_pos hw]
  exact wp_toks s x ho B v d hs hown B' u xs hx hu hn hB h

/-! ### Literals -/
theorem lit1 {B : Nat} (w : World) (t : Tk) (hB : B ≤ w.heap.size) : own.Own B (.slice (some ⟨w.heap.size, 0, none⟩) 1 1) [t] (w.alloc (.cells #[.int .i64 t.k, .string t.s, .int .i64 t.a] 35)) :=
  ⟨rfl, .inr ⟨w.heap.size, 1, _, rfl, hB, heap_alloc_new w _, Nat.le_refl _, by decide, rfl, rfl⟩⟩
theorem lit2 {B : Nat} (w : World) (t u : Tk) (hB : B ≤ w.heap.size) : own.Own B (.slice (some ⟨w.heap.size, 0, none⟩) 2 2) [t, u] (w.alloc (.cells #[.int .i64 t.k, .string t.s, .int .i64 t.a, .int .i64 u.k, .string u.s, .int .i64 u.a] 35)) :=
  ⟨rfl, .inr ⟨w.heap.size, 2, _, rfl, hB, heap_alloc_new w _, Nat.le_refl _, by decide, rfl, rfl⟩⟩

theorem undrew {B : Nat} {W w1 : World} (h : Below B W.drew w1) : Below B W w1 := ⟨h.os, h.tape, h.output, h.size, h.block⟩
/-- What a call that makes its answer in memory of its own gives. -/
def Out (T : List Tk) (w : World) (e : Ending) (w' : World) : Prop := ∃ v, e = .returned v ∧ Below w.heap.size w w' ∧ own.Own w.heap.size v T w'

/-- A token's box. -/
def T3 (g : Nat) (k : Int) (s : ByteArray) (x : Int) (w : World) : Prop := w.heap[g]? = some (.cells #[.int .i64 k, .string s, .int .i64 x] 35 (0, 0))
theorem T3.f {g : Nat} {k x : Int} {s : ByteArray} {w : World} (h : T3 g k s x w) (j : Nat) : w.frozen? ⟨g, j, none⟩ = false := frozen_of_row w g j _ _ h
theorem T3.c {g : Nat} {k x : Int} {s : ByteArray} {w : World} (h : T3 g k s x w) : w.cell? ⟨g, 0, none⟩ = some (.int .i64 k) ∧ w.cell? ⟨g, 1, none⟩ = some (.string s) ∧ w.cell? ⟨g, 2, none⟩ = some (.int .i64 x) :=
  ⟨by rw [cell_of_row w g 0 _ _ _ h]; rfl, by rw [cell_of_row w g 1 _ _ _ h]; rfl, by rw [cell_of_row w g 2 _ _ _ h]; rfl⟩
theorem T3.put {g : Nat} {k x : Int} {s : ByteArray} {w : World} (h : T3 g k s x w) (k' x' : Int) (s' : ByteArray) : T3 g k' s' x' (((w.setCell ⟨g, 0, none⟩ (.int .i64 k')).setCell ⟨g, 1, none⟩ (.string s')).setCell ⟨g, 2, none⟩ (.int .i64 x')) :=
  heap_setCell_same _ g 2 _ _ _ (heap_setCell_same _ g 1 _ _ _ (heap_setCell_same _ g 0 _ _ _ h))
theorem below_set3 {B g : Nat} {w W : World} (h : Below B W w) (hg : B ≤ g) (x y z : Value) : Below B W (((w.setCell ⟨g, 0, none⟩ x).setCell ⟨g, 1, none⟩ y).setCell ⟨g, 2, none⟩ z) :=
  ((h.setCell (p := ⟨g, 0, none⟩) hg x).setCell (p := ⟨g, 1, none⟩) hg y).setCell (p := ⟨g, 2, none⟩) hg z

theorem spec_tok (k : Int) (w : World) : Calls Tryz.prog 110 #[.int .i64 k] w fun e w' => e = .returned (.agg #[.int .i64 (tok k).k, .string (tok k).s, .int .i64 (tok k).a]) ∧ Below w.heap.size w w' := by
  have HT := Lib.hid (show T3 w.heap.size 0 ⟨#[]⟩ 0 (w.alloc (.cells #[.int .i64 0, .string ⟨#[]⟩, .int .i64 0] 35)) from heap_alloc_new w _)
  have hsz : ∀ o, (w.alloc o).heap.size = w.heap.size + 1 := fun o => by simp
  have HSZ := Lib.hid hsz
  clear hsz
  go_enter Tryz.func110, Tryz.ntmps110
  go_wp2_with fail
  refine (spell.spec_spell k _).mono ?_
  rintro e w1 ⟨rfl, b1⟩
  have X1 := Lib.hid (show T3 w.heap.size 0 ⟨#[]⟩ 0 w1 from (b1.block w.heap.size (by rw [HSZ.out]; omega)).trans HT.out)
  have B1 := Lib.hid (((Below.refl w.heap.size w).alloc (Nat.le_refl _) _).trans (b1.mono (by rw [HSZ.out]; omega)))
  have f0 := X1.out.f 0
  have f1 := X1.out.f 1
  have f2 := X1.out.f 2
  obtain ⟨c0, c1, c2⟩ := X1.out.c
  clear b1
  go_wp2
  obtain ⟨d0, d1, d2⟩ := (X1.out.put k 0 (spell.spell k)).c
  refine bodyPost_ret (v := .agg #[.int .i64 k, .string (spell.spell k), .int .i64 0]) (by simp [results, Tryz.results110, go_sem, d0, d1, d2]) rfl ⟨rfl, ?_⟩
  exact below_set3 B1.out (Nat.le_refl _) _ _ _

/-- The token of a node without kids. -/
def leafK (n : Nd) : Int := if n.k = 1 then 6 else if n.k = 2 then 3 else if n.k = 3 then 4 else if n.k = 4 then 5 else 0
def leafS (n : Nd) : ByteArray := if 1 ≤ n.k ∧ n.k ≤ 4 then n.s else ⟨#[]⟩
set_option maxHeartbeats 800000 in
theorem spec_leaf (n : Nd) (ak : Option Addr) (ck : Nat) (w : World) :
    Calls Tryz.prog 134 #[.agg #[.int .i64 n.k, .int .i64 n.op, .string n.s, .string n.t, .slice ak n.kids.length ck]] w fun e w' => e = .returned (.agg #[.int .i64 (leafK n), .string (leafS n), .int .i64 0]) ∧ Below w.heap.size w w' := by
  have HT := Lib.hid (fun o : Obj => show T3 (w.heap.size + 1) 0 ⟨#[]⟩ 0 ((w.alloc o).alloc (.cells #[.int .i64 0, .string ⟨#[]⟩, .int .i64 0] 35)) from by have := heap_alloc_new (w.alloc o) (.cells #[.int .i64 0, .string ⟨#[]⟩, .int .i64 0] 35); unfold T3; simpa using this)
  have HB := Lib.hid (fun o o' : Obj => show Below w.heap.size w ((w.alloc o).alloc o') from ((Below.refl _ _).alloc (Nat.le_refl _) _).alloc (by simp) _)
  have f := fun (o : Obj) (j : Nat) => (HT.out o).f j
  have hr : (n.k = 1 ∧ leafK n = 6 ∧ leafS n = n.s) ∨ (n.k = 2 ∧ leafK n = 3 ∧ leafS n = n.s) ∨ (n.k = 3 ∧ leafK n = 4 ∧ leafS n = n.s) ∨ (n.k = 4 ∧ leafK n = 5 ∧ leafS n = n.s) ∨ ((¬ n.k = 1 ∧ ¬ n.k = 2 ∧ ¬ n.k = 3 ∧ ¬ n.k = 4) ∧ leafK n = 0 ∧ leafS n = ⟨#[]⟩) := by
    by_cases h1 : n.k = 1
    · exact .inl ⟨h1, by simp [leafK, h1], by simp [leafS, h1]⟩
    by_cases h2 : n.k = 2
    · exact .inr (.inl ⟨h2, by simp [leafK, h2], by simp [leafS, h2]⟩)
    by_cases h3 : n.k = 3
    · exact .inr (.inr (.inl ⟨h3, by simp [leafK, h3], by simp [leafS, h3]⟩))
    by_cases h4 : n.k = 4
    · exact .inr (.inr (.inr (.inl ⟨h4, by simp [leafK, h4], by simp [leafS, h4]⟩)))
    · exact .inr (.inr (.inr (.inr ⟨⟨h1, h2, h3, h4⟩, by simp [leafK, h1, h2, h3, h4], by unfold leafS; rw [if_neg (by omega)]⟩)))
  rcases hr with ⟨h, e1, e2⟩ | ⟨h, e1, e2⟩ | ⟨h, e1, e2⟩ | ⟨h, e1, e2⟩ | ⟨⟨h1, h2, h3, h4⟩, e1, e2⟩
  all_goals
    have E1 := Lib.hid e1
    have E2 := Lib.hid e2
    clear e1 e2
    go_enter Tryz.func134, Tryz.ntmps134
    go_wp2
    all_goals
      obtain ⟨d0, d1, d2⟩ := ((HT.out (.cells #[.int .i64 n.k, .int .i64 n.op, .string n.s, .string n.t, .slice ak n.kids.length ck] 60)).put (leafK n) 0 (leafS n)).c
      rw [E1.out, E2.out] at d0 d1 d2
      rw [E1.out, E2.out]
      refine bodyPost_ret (by simp [results, Tryz.results134, go_sem, d0, d1, d2]) rfl ⟨rfl, ?_⟩
      exact HB.out _ _
end Go.Proofs.YtiilpnoaocfjgaaGreatDoor.st

namespace Go.Proofs.YtiilpnoaocfjgaaGreatDoor.ps
open Go.ChangeShapes Go.WideShapes Go.ChangeAt Go.RowKit
open chars (inR)
open lv (levelOf opLevel box_below Bx)
set_option linter.unusedVariables false
set_option maxRecDepth 20000

theorem fits_eq {k op L V : Int} {d i g s C1 C2 C3 C4 : Bool} (h : posOk L d = true) (hV : levelOf k op = V) (h0 : ¬ V = 0) (h1 : (i && k == 13) = C1) (h2 : (g && (k == 12 && op == 62)) = C2) (h3 : (s && (k == 11 || k == 9 || k == 4)) = C3) (h4 : (d && k == 9) = C4) : fits k op L d i g s = (!(C1 || C2 || C3) && (C4 || decide (L ≤ V))) := by
  unfold fits forb
  rw [h, hV, h1, h2, h3, h4]
  have : (V == 0) = false := by simp [h0]
  rw [this]
  simp
set_option maxHeartbeats 3200000 in
theorem spec_fits (k op L : Int) (x y : ByteArray) (a : Option Addr) (n cap : Nat) (d i g s : Bool) (w : World) : Calls Tryz.prog 139 #[.agg #[.int .i64 k, .int .i64 op, .string x, .string y, .slice a n cap], .agg #[.int .i64 L, .bool d, .bool i, .bool g, .bool s]] w fun e w' => e = .returned (.bool (fits k op L d i g s)) ∧ Below w.heap.size w w' := by
  have HB := Lib.hid (Nb.start w k op x y (.slice a n cap) L d i g s)
  obtain ⟨P, hP⟩ : ∃ P, posOk L d = P := ⟨_, rfl⟩
  have HP := Lib.hid hP
  clear hP
  obtain ⟨V, hV⟩ : ∃ V, levelOf k op = V := ⟨_, rfl⟩
  have HV := Lib.hid hV
  clear hV
  cases P
  · have HE := Lib.hid (fits_no (k := k) (op := op) (i := i) (g := g) (s := s) HP.out)
    go_enter Tryz.func139, Tryz.ntmps139
    go_wp2_with (first | (go_at_call 26; refine (spec_ok L _ _ _ _ _).mono ?_; rw [HP.out]; rintro e w5 ⟨rfl, b5⟩; have X5 := Lib.hid (HB.out.keep b5); obtain ⟨c50, c51, c52, c53, c54, -, -⟩ := X5.out.n; obtain ⟨p50, p51, p52, p53, p54, -⟩ := X5.out.p; clear b5) | (go_at_call 211; refine (lv.spec_level k op x y a n cap _).mono ?_; rw [HV.out]; rintro e w6 ⟨rfl, b6⟩; have X6 := Lib.hid (X5.out.keep b6); obtain ⟨c60, c61, c62, c63, c64, -, -⟩ := X6.out.n; obtain ⟨p60, p61, p62, p63, p64, -⟩ := X6.out.p; clear b6))
    go_ret
    exact ⟨by rw [HE.out]; rfl, X5.out.n.b⟩
  by_cases h0 : V = 0
  · subst h0
    have HE := Lib.hid (show fits k op L d i g s = false by unfold fits; rw [HP.out, HV.out]; rfl)
    go_enter Tryz.func139, Tryz.ntmps139
    go_wp2_with (first | (go_at_call 26; refine (spec_ok L _ _ _ _ _).mono ?_; rw [HP.out]; rintro e w5 ⟨rfl, b5⟩; have X5 := Lib.hid (HB.out.keep b5); obtain ⟨c50, c51, c52, c53, c54, -, -⟩ := X5.out.n; obtain ⟨p50, p51, p52, p53, p54, -⟩ := X5.out.p; clear b5) | (go_at_call 211; refine (lv.spec_level k op x y a n cap _).mono ?_; rw [HV.out]; rintro e w6 ⟨rfl, b6⟩; have X6 := Lib.hid (X5.out.keep b6); obtain ⟨c60, c61, c62, c63, c64, -, -⟩ := X6.out.n; obtain ⟨p60, p61, p62, p63, p64, -⟩ := X6.out.p; clear b6))
    go_ret
    exact ⟨by rw [HE.out]; rfl, X6.out.n.b⟩
  obtain ⟨C1, hC1⟩ : ∃ C, (i && k == 13) = C := ⟨_, rfl⟩
  obtain ⟨C2, hC2⟩ : ∃ C, (g && (k == 12 && op == 62)) = C := ⟨_, rfl⟩
  obtain ⟨C3, hC3⟩ : ∃ C, (s && (k == 11 || k == 9 || k == 4)) = C := ⟨_, rfl⟩
  obtain ⟨C4, hC4⟩ : ∃ C, (d && k == 9) = C := ⟨_, rfl⟩
  have HE := Lib.hid (fits_eq HP.out HV.out h0 hC1 hC2 hC3 hC4)
  have H1 := Lib.hid hC1
  have H2 := Lib.hid hC2
  have H3 := Lib.hid hC3
  have H4 := Lib.hid hC4
  clear hC1 hC2 hC3 hC4
  go_enter Tryz.func139, Tryz.ntmps139
  have hv0 : (V == 0) = false := by simp [h0]
  go_upto_region 3 with (first | (go_at_call 26; refine (spec_ok L _ _ _ _ _).mono ?_; rw [HP.out]; rintro e w5 ⟨rfl, b5⟩; have X5 := Lib.hid (HB.out.keep b5); obtain ⟨c50, c51, c52, c53, c54, -, -⟩ := X5.out.n; obtain ⟨p50, p51, p52, p53, p54, -⟩ := X5.out.p; clear b5) | (go_at_call 211; refine (lv.spec_level k op x y a n cap _).mono ?_; rw [HV.out]; rintro e w6 ⟨rfl, b6⟩; have X6 := Lib.hid (X5.out.keep b6); obtain ⟨c60, c61, c62, c63, c64, -, -⟩ := X6.out.n; obtain ⟨p60, p61, p62, p63, p64, -⟩ := X6.out.p; clear b6))
  (try rw [hv0])
  clear h0 hv0
  go_cut [14] (fun v wx => v = .bool C1 ∧ wx = w6)
  case first =>
    cases i
    all_goals
      go_wp2_with fail
      all_goals
        go_meet
        first | done | exact ⟨congrArg Value.bool (by rw [← H1.out]; simp_all), rfl⟩
  case rest =>
  obtain ⟨rfl, hw⟩ := hcut
  subst wc
  cases C1
  rotate_left
  · go_wp2_with fail
    go_ret
    exact ⟨by rw [HE.out]; rfl, X6.out.n.b⟩
  go_upto_region 5 with (fail)
  go_cut [22] (fun v wx => v = .bool C2 ∧ wx = w6)
  case first =>
    by_cases hk12 : k = 12
    · subst hk12
      cases g
      all_goals
        go_wp2_with fail
        all_goals
          go_meet
          first | done | exact ⟨congrArg Value.bool (by rw [← H2.out]; simp_all), rfl⟩
    cases g
    all_goals
      go_wp2_with fail
      all_goals
        go_meet
        first | done | exact ⟨congrArg Value.bool (by rw [← H2.out]; simp_all), rfl⟩
  case rest =>
  obtain ⟨rfl, hw⟩ := hcut
  subst wc
  cases C2
  rotate_left
  · go_wp2_with fail
    go_ret
    exact ⟨by rw [HE.out]; rfl, X6.out.n.b⟩
  go_upto_region 7 with (fail)
  go_cut [35] (fun v wx => v = .bool C3 ∧ wx = w6)
  case first =>
    by_cases hk11 : k = 11
    · subst hk11
      cases s
      all_goals
        go_wp2_with fail
        all_goals
          go_meet
          first | done | exact ⟨congrArg Value.bool (by rw [← H3.out]; simp_all), rfl⟩
    by_cases hk9 : k = 9
    · subst hk9
      cases s
      all_goals
        go_wp2_with fail
        all_goals
          go_meet
          first | done | exact ⟨congrArg Value.bool (by rw [← H3.out]; simp_all), rfl⟩
    by_cases hk4 : k = 4
    · subst hk4
      cases s
      all_goals
        go_wp2_with fail
        all_goals
          go_meet
          first | done | exact ⟨congrArg Value.bool (by rw [← H3.out]; simp_all), rfl⟩
    cases s
    all_goals
      go_wp2_with fail
      all_goals
        go_meet
        first | done | exact ⟨congrArg Value.bool (by rw [← H3.out]; simp_all), rfl⟩
  case rest =>
  obtain ⟨rfl, hw⟩ := hcut
  subst wc
  cases C3
  rotate_left
  · go_wp2_with fail
    go_ret
    exact ⟨by rw [HE.out]; rfl, X6.out.n.b⟩
  go_upto_region 9 with (fail)
  go_cut [53] (fun v wx => v = .bool C4 ∧ wx = w6)
  case first =>
    by_cases hk9 : k = 9
    · subst hk9
      cases d
      all_goals
        go_wp2_with fail
        all_goals
          go_meet
          first | done | exact ⟨congrArg Value.bool (by rw [← H4.out]; simp_all), rfl⟩
    cases d
    all_goals
      go_wp2_with fail
      all_goals
        go_meet
        first | done | exact ⟨congrArg Value.bool (by rw [← H4.out]; simp_all), rfl⟩
  case rest =>
  obtain ⟨rfl, hw⟩ := hcut
  subst wc
  cases C4
  rotate_left
  · go_wp2_with fail
    go_ret
    exact ⟨by rw [HE.out]; rfl, X6.out.n.b⟩
  go_wp2_with fail
  go_region_held3 (fun w' => (w'.cell? ⟨w.heap.size, 0, none⟩ = some (.int .i64 k) ∧ w'.cell? ⟨w.heap.size, 1, none⟩ = some (.int .i64 op) ∧ w'.cell? ⟨w.heap.size, 2, none⟩ = some (.string x) ∧ w'.cell? ⟨w.heap.size, 3, none⟩ = some (.string y) ∧ w'.cell? ⟨w.heap.size, 4, none⟩ = some (.slice a n cap) ∧ w'.cell? ⟨w.heap.size + 1, 0, none⟩ = some (.int .i64 L) ∧ w'.cell? ⟨w.heap.size + 1, 1, none⟩ = some (.bool d) ∧ w'.cell? ⟨w.heap.size + 1, 2, none⟩ = some (.bool i) ∧ w'.cell? ⟨w.heap.size + 1, 3, none⟩ = some (.bool g) ∧ w'.cell? ⟨w.heap.size + 1, 4, none⟩ = some (.bool s)) ∧ Nb w w' k op x y (.slice a n cap) L d i g s)
    (first | exact nb_cells X6.out.drew | exact nb_cells X6.out | exact nb_cells ((by assumption : _ ∧ Nb _ _ _ _ _ _ _ _ _ _ _ _).2.keep (by assumption)) | exact nb_cells (by assumption : _ ∧ Nb _ _ _ _ _ _ _ _ _ _ _ _).2.drew)
    (first | (go_at_call 211; refine (lv.spec_level k op x y a n cap _).mono ?_; rw [HV.out]; rintro e w7 ⟨rfl, b7⟩))
  have HBZ := Lib.hid (by assumption : _ ∧ Nb _ _ _ _ _ _ _ _ _ _ _ _).2.n.b
  go_wp2
  go_ret
  exact ⟨by rw [HE.out]; rfl, HBZ.out⟩
end Go.Proofs.YtiilpnoaocfjgaaGreatDoor.ps

namespace Go.Proofs.YtiilpnoaocfjgaaGreatDoor.st
open Go.ChangeShapes Go.WideShapes Go.ChangeAt Go.RowKit
open tk (Tk)
open nd (Nd Ints)
open ps (Ps posOk kidI top)
open spell (Held)
open et
set_option linter.unusedVariables false
set_option linter.unusedSimpArgs false
set_option maxRecDepth 20000

theorem nx {W0 W w1 : World} (h : Below W0.heap.size W0 W) (b : Below W.heap.size W w1) : Below W0.heap.size W0 w1 := h.trans (b.mono h.size)
theorem al {W0 W : World} (h : Below W0.heap.size W0 W) (o : Obj) : Below W0.heap.size W0 (W.alloc o) := h.alloc h.size o
theorem dr {W0 W : World} (h : Below W0.heap.size W0 W) : Below W0.heap.size W0 W.drew := h.drew
/-- What a call of F answers at node i. -/
def CallS (F : FuncId) (l : List Nd) (a : Option Addr) (m cap : Nat) (fl : Bool) (i : Nat) (R : Ps → List Tk) : Prop :=
  ∀ (q : Ps), posOk q.l q.d = true → ∀ (w : World), nd.Lies w.heap.size w a l → Calls Tryz.prog F #[.agg #[.slice a m cap, .bool fl], .int .i64 (i : Int), .agg #[.int .i64 q.l, .bool q.d, .bool q.i, .bool q.g, .bool q.s]] w (Out (R q) w)

theorem lvalue_any {l : List Nd} {a : Option Addr} {m cap : Nat} {fl : Bool} {R : Ps → List Tk} (i : Nat) (w : World) (hc : nd.Lies w.heap.size w a l) (hN : CallS 306 l a m cap fl i R) :
    Calls Tryz.prog 344 #[.agg #[.slice a m cap, .bool fl], .int .i64 (i : Int)] w (Out (R ⟨14, false, false, false, false⟩) w) := by
  have B0 := Lib.hid (show Below w.heap.size w (w.alloc (.cells #[.slice a m cap, .bool fl] 201)) from (Below.refl _ _).alloc (Nat.le_refl _) _)
  have HN := Lib.hid (fun W hW => hN ⟨14, false, false, false, false⟩ (show posOk 14 false = true by decide) W hW)
  have HC := Lib.hid hc
  clear hc hN
  go_enter Tryz.func344, Tryz.ntmps344
  go_wp2_with fail
  refine (HN.out _ (HC.out.on B0.out (Nat.le_refl _))).mono ?_
  rintro e w1 ⟨v, rfl, b1, o1⟩
  have B1 := Lib.hid (nx B0.out b1)
  have O1 := Lib.hid (o1.up B0.out.size)
  clear b1 o1
  go_wp2
  go_ret
  exact ⟨v, rfl, B1.out, O1.out⟩

set_option maxHeartbeats 3200000 in
theorem at_mis {l : List Nd} {a : Option Addr} {m cap : Nat} {U : Nat → Ps → List Tk} (i : Nat) (n : Nd) (hm : m = l.length) (hmx : m ≤ 1048576) (hi : i < m) (hn : l.getD i default = n) (hlen : ∀ q, (U i q).length ≤ 100000)
    (hN : CallS 306 l a m cap false i (U i)) : CallS 234 l a m cap false i (par mis l U i) := by
  intro q hq w hc
  have hil : i < l.length := hm ▸ hi
  rw [getD_at hil] at hn
  have hc1 := hc
  obtain ⟨bl, ol, rfl, hbl, hnode⟩ := nd.lies_at hc hil
  obtain ⟨ak, ck, h5, hik⟩ := hnode i hil
  rw [hn] at h5
  have hpar : par mis l U i q = if mis n q = true then tok 32 :: (U i top ++ [tok 33]) else U i q := by unfold par; rw [getD_at hil, hn]
  rw [hpar]
  have hW0 : Below w.heap.size w ((w.alloc (.cells #[.slice (some ⟨bl, ol, none⟩) m cap, .bool false] 201)).alloc (.cells #[.int .i64 q.l, .bool q.d, .bool q.i, .bool q.g, .bool q.s] 26)) := ((Below.refl _ _).alloc (Nat.le_refl _) _).alloc (by simp) _
  have hz : ∀ W, Below ((w.alloc (.cells #[.slice (some ⟨bl, ol, none⟩) m cap, .bool false] 201)).alloc (.cells #[.int .i64 q.l, .bool q.d, .bool q.i, .bool q.g, .bool q.s] 26)).heap.size ((w.alloc (.cells #[.slice (some ⟨bl, ol, none⟩) m cap, .bool false] 201)).alloc (.cells #[.int .i64 q.l, .bool q.d, .bool q.i, .bool q.g, .bool q.s] 26)) W → W.cell? ⟨w.heap.size, 0, none⟩ = some (.slice (some ⟨bl, ol, none⟩) m cap) ∧ W.cell? ⟨w.heap.size, 1, none⟩ = some (.bool false) ∧ W.cell? ⟨(w.heap.size + 1), 0, none⟩ = some (.int .i64 q.l) ∧ W.cell? ⟨(w.heap.size + 1), 1, none⟩ = some (.bool q.d) ∧ W.cell? ⟨(w.heap.size + 1), 2, none⟩ = some (.bool q.i) ∧ W.cell? ⟨(w.heap.size + 1), 3, none⟩ = some (.bool q.g) ∧ W.cell? ⟨(w.heap.size + 1), 4, none⟩ = some (.bool q.s) ∧ W.cell? ⟨bl, ol + i * 5, none⟩ = some (.int .i64 n.k) ∧ W.cell? ⟨bl, ol + i * 5 + 1, none⟩ = some (.int .i64 n.op) ∧ W.cell? ⟨bl, ol + i * 5 + 2, none⟩ = some (.string n.s) ∧ W.cell? ⟨bl, ol + i * 5 + 3, none⟩ = some (.string n.t) ∧ W.cell? ⟨bl, ol + i * 5 + 4, none⟩ = some (.slice ak n.kids.length ck) := fun W hb => by
    have hlt : w.heap.size + 1 < ((w.alloc (.cells #[.slice (some ⟨bl, ol, none⟩) m cap, .bool false] 201)).alloc (.cells #[.int .i64 q.l, .bool q.d, .bool q.i, .bool q.g, .bool q.s] 26)).heap.size := by simp
    have h6 := (h5.keep hW0 hbl).keep hb (by omega)
    obtain ⟨y0, y1, y2, y3, y4⟩ := h6
    have ha := (hb.block w.heap.size (by omega)).trans ((Below.heap_alloc _ _ _ (by simp)).trans (heap_alloc_new w (.cells #[.slice (some ⟨bl, ol, none⟩) m cap, .bool false] 201)))
    have hp := heap_alloc_new (w.alloc (.cells #[.slice (some ⟨bl, ol, none⟩) m cap, .bool false] 201)) (.cells #[.int .i64 q.l, .bool q.d, .bool q.i, .bool q.g, .bool q.s] 26)
    rw [show ∀ o, (w.alloc o).heap.size = w.heap.size + 1 from fun o => by simp] at hp
    have hb2 := (hb.block (w.heap.size + 1) (by omega)).trans hp
    exact ⟨by rw [cell_of_row _ _ 0 _ _ _ ha]; rfl, by rw [cell_of_row _ _ 1 _ _ _ ha]; rfl, by rw [cell_of_row _ _ 0 _ _ _ hb2]; rfl, by rw [cell_of_row _ _ 1 _ _ _ hb2]; rfl, by rw [cell_of_row _ _ 2 _ _ _ hb2]; rfl, by rw [cell_of_row _ _ 3 _ _ _ hb2]; rfl, by rw [cell_of_row _ _ 4 _ _ _ hb2]; rfl, y0, y1, y2, y3, y4⟩
  have HZ := Lib.hid hz
  have HW0 := Lib.hid hW0
  have HL := Lib.hid (hc1.on hW0 (Nat.le_refl _))
  have HN := Lib.hid hN
  have HQ := Lib.hid hq
  have HLN := Lib.hid (show ([tok 32] : List Tk).length + (U i top).length ≤ 1048576 by have := hlen top; simp only [List.length_cons, List.length_nil]; omega)
  have HLN2 := Lib.hid (show ([tok 32] ++ U i top).length + ([tok 33] : List Tk).length ≤ 1048576 by have := hlen top; simp only [List.length_append, List.length_cons, List.length_nil]; omega)
  have hk1 : (0 : Int) ≤ (i : Int) := by omega
  have hk2 : (i : Int) < (m : Int) := by omega
  obtain ⟨C, hC⟩ : ∃ C, ps.fits n.k n.op q.l q.d q.i q.g q.s = C := ⟨_, rfl⟩
  have HC := Lib.hid hC
  have hmis : mis n q = !C := by unfold mis; rw [hC]
  rw [hmis]
  clear hlen hN hq hc hc1 hnode h5 hik hpar hW0 hz hm hi hn hil hbl hC hmis
  cases C
  · show Calls _ _ _ _ (Out (tok 32 :: (U i top ++ [tok 33])) w)
    obtain ⟨W0, hW⟩ : ∃ W, W = ((w.alloc (.cells #[.slice (some ⟨bl, ol, none⟩) m cap, .bool false] 201)).alloc (.cells #[.int .i64 q.l, .bool q.d, .bool q.i, .bool q.g, .bool q.s] 26)) := ⟨_, rfl⟩
    go_enter Tryz.func234, Tryz.ntmps234
    go_wp2_with fail
    rw [← hW] at HZ HW0 HL ⊢
    clear hW
    have Y0 := Lib.hid (HZ.out _ (dr (Below.refl _ W0)))
    have hun : (undef : Value) = .tuple #[] := rfl
    obtain ⟨u0, u1, p0, p1, p2, p3, p4, n0, n1, n2, n3, n4⟩ := Y0.out
    first | (go_region_law (first | (go_simp; go_at_call 139; refine (ps.spec_fits n.k n.op q.l n.s n.t ak n.kids.length ck q.d q.i q.g q.s _).mono ?_; rw [HC.out]; rintro e w1 ⟨rfl, b1⟩; have B1 := Lib.hid (show Below W0.heap.size W0 w1 from undrew b1); have Y1 := Lib.hid (HZ.out w1 B1.out); clear b1; obtain ⟨u0, u1, p0, p1, p2, p3, p4, n0, n1, n2, n3, n4⟩ := Y1.out))) | fail "region 1"
    all_goals
      go_wp2_with fail
      clear u0 u1 p0 p1 p2 p3 p4 n0 n1 n2 n3 n4
      have YB := Lib.hid (HZ.out _ (dr B1.out))
      go_region_held3 (fun w' => w'.cell? ⟨w.heap.size, 0, none⟩ = some (.slice (some ⟨bl, ol, none⟩) m cap) ∧ w'.cell? ⟨w.heap.size, 1, none⟩ = some (.bool false) ∧ w'.cell? ⟨(w.heap.size + 1), 0, none⟩ = some (.int .i64 q.l) ∧ w'.cell? ⟨(w.heap.size + 1), 1, none⟩ = some (.bool q.d) ∧ w'.cell? ⟨(w.heap.size + 1), 2, none⟩ = some (.bool q.i) ∧ w'.cell? ⟨(w.heap.size + 1), 3, none⟩ = some (.bool q.g) ∧ w'.cell? ⟨(w.heap.size + 1), 4, none⟩ = some (.bool q.s) ∧ w'.cell? ⟨bl, ol + i * 5, none⟩ = some (.int .i64 n.k) ∧ w'.cell? ⟨bl, ol + i * 5 + 1, none⟩ = some (.int .i64 n.op) ∧ w'.cell? ⟨bl, ol + i * 5 + 2, none⟩ = some (.string n.s) ∧ w'.cell? ⟨bl, ol + i * 5 + 3, none⟩ = some (.string n.t) ∧ w'.cell? ⟨bl, ol + i * 5 + 4, none⟩ = some (.slice ak n.kids.length ck))
        (first | (with_reducible exact YB.out) | (with_reducible exact HZ.out _ BT.out) | (with_reducible exact HZ.out _ (al BT.out _)) | (with_reducible exact HZ.out _ BP.out) | (with_reducible exact HZ.out _ (al BP.out _)) | (with_reducible exact HZ.out _ BN.out) | (with_reducible exact HZ.out _ (al BN.out _)) | (with_reducible exact HZ.out _ BA.out))
        (first | (go_at_call 110; refine (spec_tok 32 _).mono ?_; rintro e wT ⟨rfl, bT⟩; have BT := Lib.hid (nx B1.out (undrew bT))) | (go_at_call 58; refine (ps.spec_top _).mono ?_; rintro e wP ⟨rfl, bP⟩; have BP := Lib.hid (show Below W0.heap.size W0 wP from by first | with_reducible exact nx BT.out bP | with_reducible exact nx (al BT.out _) bP)) | (go_at_call 306; refine (HN.out top top_ok _ (by first | with_reducible exact HL.out.on BP.out (Nat.le_refl _) | with_reducible exact HL.out.on (al BP.out _) (Nat.le_refl _))).mono ?_; rintro e wN ⟨vN, rfl, bN, oN⟩; have BN := Lib.hid (show Below W0.heap.size W0 wN from by first | with_reducible exact nx BP.out bN | with_reducible exact nx (al BP.out _) bN); have ON := Lib.hid (show own.Own W0.heap.size vN (U i top) wN from by first | with_reducible exact oN.up BP.out.size | with_reducible exact oN.up (al BP.out _).size)) | (refine step_toks (by rfl) _ _ (by rfl) W0.heap.size _ [tok 32] (by rfl) (by first | exact lit1 wN (tok 32) BN.out.size | exact (lit1 wP (tok 32) BP.out.size).keep bN (Nat.le_refl _) | exact ((lit1 wT (tok 32) BT.out.size).keep bP (Nat.le_refl _)).keep bN (Nat.le_refl _)) W0.heap.size vN (U i top) (by rfl) (by first | with_reducible exact ON.out | with_reducible exact ON.out.keep ((Below.refl _ _).alloc (Nat.le_refl _) _) (Nat.le_refl _)) HLN.out (by first | with_reducible exact BN.out.size | with_reducible exact (al BN.out _).size) ?_; intro vA wA oA bA gA; have BA := Lib.hid (show Below W0.heap.size W0 wA from by first | with_reducible exact BN.out.trans bA | with_reducible exact (al BN.out _).trans bA); have OA := Lib.hid oA; clear oA bA gA))
      all_goals
        go_wp2_with (first | (go_at_call 110; refine (spec_tok 33 _).mono ?_; rintro e wS ⟨rfl, bS⟩; have BS := Lib.hid (nx BA.out bS); have OS := Lib.hid (OA.out.keep bS (Nat.le_refl _)); clear bS) | (at_builtin; refine wpList_toks (by rfl) _ _ (by rfl) W0.heap.size _ ([tok 32] ++ U i top) (by rfl) (OS.out.keep ((Below.refl _ _).alloc (Nat.le_refl _) _) (Nat.le_refl _)) W0.heap.size _ [tok 33] (by rfl) (lit1 wS (tok 33) BS.out.size) HLN2.out (al BS.out _).size ?_; intro vR wR oR bR gR; have BR := Lib.hid ((al BS.out _).trans bR); have OR := Lib.hid oR; clear oR bR gR))
        go_ret
        exact ⟨vR, rfl, HW0.out.trans (BR.out.mono HW0.out.size), OR.out.up HW0.out.size⟩
  · show Calls _ _ _ _ (Out (U i q) w)
    obtain ⟨W0, hW⟩ : ∃ W, W = ((w.alloc (.cells #[.slice (some ⟨bl, ol, none⟩) m cap, .bool false] 201)).alloc (.cells #[.int .i64 q.l, .bool q.d, .bool q.i, .bool q.g, .bool q.s] 26)) := ⟨_, rfl⟩
    go_enter Tryz.func234, Tryz.ntmps234
    go_wp2_with fail
    rw [← hW] at HZ HW0 HL ⊢
    clear hW
    have Y0 := Lib.hid (HZ.out _ (dr (Below.refl _ W0)))
    go_region_held3 (fun w' => w'.cell? ⟨w.heap.size, 0, none⟩ = some (.slice (some ⟨bl, ol, none⟩) m cap) ∧ w'.cell? ⟨w.heap.size, 1, none⟩ = some (.bool false) ∧ w'.cell? ⟨(w.heap.size + 1), 0, none⟩ = some (.int .i64 q.l) ∧ w'.cell? ⟨(w.heap.size + 1), 1, none⟩ = some (.bool q.d) ∧ w'.cell? ⟨(w.heap.size + 1), 2, none⟩ = some (.bool q.i) ∧ w'.cell? ⟨(w.heap.size + 1), 3, none⟩ = some (.bool q.g) ∧ w'.cell? ⟨(w.heap.size + 1), 4, none⟩ = some (.bool q.s) ∧ w'.cell? ⟨bl, ol + i * 5, none⟩ = some (.int .i64 n.k) ∧ w'.cell? ⟨bl, ol + i * 5 + 1, none⟩ = some (.int .i64 n.op) ∧ w'.cell? ⟨bl, ol + i * 5 + 2, none⟩ = some (.string n.s) ∧ w'.cell? ⟨bl, ol + i * 5 + 3, none⟩ = some (.string n.t) ∧ w'.cell? ⟨bl, ol + i * 5 + 4, none⟩ = some (.slice ak n.kids.length ck))
      (first | with_reducible exact Y0.out | with_reducible exact Y1.out)
      (first | (go_at_call 139; refine (ps.spec_fits n.k n.op q.l n.s n.t ak n.kids.length ck q.d q.i q.g q.s _).mono ?_; rw [HC.out]; rintro e w1 ⟨rfl, b1⟩; have B1 := Lib.hid (show Below W0.heap.size W0 w1 from undrew b1); have Y1 := Lib.hid (HZ.out w1 B1.out); clear b1))
    obtain ⟨u0, u1, p0, p1, p2, p3, p4, n0, n1, n2, n3, n4⟩ := Y1.out
    go_wp2_with (go_at_call 306; refine (HN.out q HQ.out _ (HL.out.on B1.out (Nat.le_refl _))).mono ?_; rintro e w9 ⟨v9, rfl, b9, o9⟩; have B9 := Lib.hid (nx B1.out b9); have O9 := Lib.hid (o9.up B1.out.size); clear b9 o9)
    go_ret
    exact ⟨v9, rfl, HW0.out.trans (B9.out.mono HW0.out.size), O9.out.up HW0.out.size⟩
end Go.Proofs.YtiilpnoaocfjgaaGreatDoor.st

namespace Go.Proofs.YtiilpnoaocfjgaaGreatDoor.st
open Go.ChangeShapes Go.WideShapes Go.ChangeAt Go.RowKit
open tk (Tk)
open nd (Nd Ints)
open ps (Ps posOk kidI top)
open spell (Held)
open et
set_option linter.unusedVariables false
set_option linter.unusedSimpArgs false
set_option maxRecDepth 20000

theorem lst_succ (E : Nat → Ps → List Tk) (n : Nd) (J : Nat) : lst E n (J + 1) = lst E n J ++ (if J = 0 then [] else [tok 36]) ++ E (kd n J) top := rfl
theorem lst_le (E : Nat → Ps → List Tk) (n : Nd) (J : Nat) : ∀ d, (lst E n J).length ≤ (lst E n (J + d)).length := by
  intro d
  induction d with
  | zero => exact Nat.le_refl _
  | succ d ih =>
    refine Nat.le_trans ih ?_
    rw [← Nat.add_assoc, lst_succ, List.length_append, List.length_append]
    omega
theorem lst_to (E : Nat → Ps → List Tk) (n : Nd) {J K : Nat} (h : J ≤ K) : (lst E n J).length ≤ (lst E n K).length := by
  obtain ⟨d, rfl⟩ : ∃ d, K = J + d := ⟨K - J, by omega⟩
  exact lst_le E n J d
theorem lit0 (B : Nat) (w : World) (hB : B ≤ w.heap.size) (ty : TypeId) (hty : ty = 35) : own.Own B (.slice (some ⟨w.heap.size, 0, none⟩) 0 0) [] (w.alloc (.cells #[] ty)) := by
  subst hty
  exact ⟨rfl, .inr ⟨w.heap.size, 0, _, rfl, hB, heap_alloc_new w _, Nat.le_refl _, by decide, rfl, rfl⟩⟩
theorem kidc {n : Nd} {ak : Option Addr} {w w1 : World} (hi : Ints w.heap.size w ak n.kids) (hb : Below w.heap.size w w1) {K : Nat} (hK : K < n.kids.length) (hk : n.kids.getD K 0 = (kd n K : Int)) :
    ∃ bk ok, ak = some ⟨bk, ok, none⟩ ∧ bk < w.heap.size ∧ w1.cell? ⟨bk, ok + K, none⟩ = some (.int .i64 (kd n K : Int)) := by
  obtain ⟨bk, ok, e, hlt, hc⟩ := nd.ints_at hi hK
  refine ⟨bk, ok, e, hlt, ?_⟩
  rw [hb.cell (p := ⟨bk, ok + K, none⟩) hlt, hc K hK, ← hk, List.getD_eq_getElem?_getD, List.getElem?_eq_getElem hK]
  rfl
/-- The box of l10W. -/
structure Wb (g : Nat) (a : Option Addr) (m cap : Nat) (fl : Bool) (w : World) : Prop where
  c0 : w.cell? ⟨g, 0, none⟩ = some (.slice a m cap)
  c1 : w.cell? ⟨g, 1, none⟩ = some (.bool fl)
  lt : g < w.heap.size
theorem Wb.start (w : World) (a : Option Addr) (m cap : Nat) (fl : Bool) : Wb w.heap.size a m cap fl (w.alloc (.cells #[.slice a m cap, .bool fl] 201)) := by
  have h := heap_alloc_new w (.cells #[.slice a m cap, .bool fl] 201)
  exact ⟨by rw [cell_of_row _ _ 0 _ _ _ h]; rfl, by rw [cell_of_row _ _ 1 _ _ _ h]; rfl, by simp⟩
theorem Wb.keep {g : Nat} {a : Option Addr} {m cap : Nat} {fl : Bool} {w w1 : World} (h : Wb g a m cap fl w) (hb : Below w.heap.size w w1) : Wb g a m cap fl w1 :=
  ⟨(hb.cell (p := ⟨g, 0, none⟩) h.lt).trans h.c0, (hb.cell (p := ⟨g, 1, none⟩) h.lt).trans h.c1, Nat.lt_of_lt_of_le h.lt hb.size⟩

def RelLs (W0 : World) (E : Nat → Ps → List Tk) (n : Nd) (o i : Value) (wr : World) : Prop :=
  ∃ J : Nat, J ≤ n.kids.length ∧ i = .int .i64 (J : Int) ∧ own.Own W0.heap.size o (lst E n J) wr ∧ Below W0.heap.size W0 wr

set_option maxHeartbeats 1600000 in
theorem list_any {l : List Nd} {a : Option Addr} {m cap : Nat} {fl : Bool} {E : Nat → Ps → List Tk} (n : Nd) (ak : Option Addr) (ck : Nat) (w : World) (hc : nd.Lies w.heap.size w a l) (hn : n.kids.length ≤ 1048576) (hkd : ∀ K, K < n.kids.length → n.kids.getD K 0 = (kd n K : Int)) (hi : Ints w.heap.size w ak n.kids)
    (hE : ∀ K, K < n.kids.length → CallS 234 l a m cap fl (kd n K) (E (kd n K))) (hl : (lst E n n.kids.length).length ≤ 100000) :
    Calls Tryz.prog 345 #[.agg #[.slice a m cap, .bool fl], .slice ak n.kids.length ck] w (Out (lst E n n.kids.length) w) := by
  have hw0 : Below w.heap.size w (w.alloc (.cells #[.slice a m cap, .bool fl] 201)) := (Below.refl _ _).alloc (Nat.le_refl _) _
  have HB0 := Lib.hid hw0
  have HL := Lib.hid (hc.on hw0 (Nat.le_refl _))
  have HI := Lib.hid ((hi.keep hw0 (Nat.le_refl _)).up hw0.size)
  have HW := Lib.hid (Wb.start w a m cap fl)
  have HSZ := Lib.hid (show (w.alloc (.cells #[.slice a m cap, .bool fl] 201)).heap.size = w.heap.size + 1 by simp)
  have HKD := Lib.hid hkd
  have HE := Lib.hid hE
  have HLEN := Lib.hid hl
  obtain ⟨W0, hW⟩ : ∃ W, W = (w.alloc (.cells #[.slice a m cap, .bool fl] 201)) := ⟨_, rfl⟩
  obtain ⟨nk, hnk⟩ : ∃ nk, n.kids.length = nk := ⟨_, rfl⟩
  have HNK := Lib.hid hnk
  rw [hnk] at hn ⊢
  clear hc hi hkd hE hl hw0 hnk
  go_enter Tryz.func345, Tryz.ntmps345
  go_wp2
  rw [← hW] at HB0 HL HI HW HSZ ⊢
  clear hW
  have O0 := Lib.hid (lit0 W0.heap.size W0 (Nat.le_refl _) 35 rfl)
  rw [show ∀ o, own.Own W0.heap.size (.slice (some ⟨W0.heap.size, 0, none⟩) 0 0) [] o = own.Own W0.heap.size (.slice (some ⟨w.heap.size + 1, 0, none⟩) 0 0) [] o from fun o => by rw [HSZ.out]] at O0
  go_loopw [5, 6] (fun o i wr => RelLs W0 E n o i wr) (fun _ i _ => nk - (intOf i).toNat)
  case atStart => exact ⟨0, by omega, rfl, O0.out, (Below.refl _ _).alloc (Nat.le_refl _) _⟩
  case round =>
    obtain ⟨J, hJ, rfl, own2, b2⟩ := hrel
    have O2 := Lib.hid own2
    have B2 := Lib.hid b2
    rw [HNK.out] at hJ
    clear own2 b2
    by_cases hlt : J < nk
    · have hltk : J < n.kids.length := by have := HNK.out; omega
      obtain ⟨bk, ok, rfl, hbk, hkc⟩ := kidc HI.out (Below.refl _ _) hltk (HKD.out J hltk)
      have HY := Lib.hid (show ∀ W, Below W0.heap.size W0 W → W.cell? ⟨w.heap.size, 0, none⟩ = some (.slice a m cap) ∧ W.cell? ⟨w.heap.size, 1, none⟩ = some (.bool fl) ∧ W.cell? ⟨bk, ok + J, none⟩ = some (.int .i64 (kd n J : Int)) from fun W hb => ⟨(HW.out.keep hb).c0, (HW.out.keep hb).c1, (hb.cell (p := ⟨bk, ok + J, none⟩) hbk).trans hkc⟩)
      have hle := lst_to E n (show J + 1 ≤ n.kids.length by omega)
      rw [lst_succ, List.length_append, List.length_append] at hle
      have hi1 : (J : Int) < (nk : Int) := by omega
      have hi2 : (0 : Int) ≤ (J : Int) := by omega
      have HEJ := Lib.hid (HE.out J hltk)
      clear hkc
      by_cases h0 : J = 0
      · have HL1 := Lib.hid (show (lst E n J).length + (E (kd n J) top).length ≤ 1048576 by have := HLEN.out; omega)
        have hj0 : ¬ (0 : Int) < (J : Int) := by omega
        have HR := Lib.hid (show lst E n (J + 1) = lst E n J ++ E (kd n J) top by rw [lst_succ, if_pos h0, List.append_nil])
        clear hle h0
        go_wp2_with fail
        have YB := Lib.hid (HY.out _ (dr B2.out))
        go_region_held3 (fun w' => w'.cell? ⟨w.heap.size, 0, none⟩ = some (.slice a m cap) ∧ w'.cell? ⟨w.heap.size, 1, none⟩ = some (.bool fl) ∧ w'.cell? ⟨bk, ok + J, none⟩ = some (.int .i64 (kd n J : Int)))
          (first | (with_reducible exact YB.out) | (with_reducible exact HY.out _ BP.out) | (with_reducible exact HY.out _ BN.out) | (with_reducible exact HY.out _ BA.out))
          (first | (go_at_call 58; refine (ps.spec_top _).mono ?_; rintro e wP ⟨rfl, bP⟩; have BP := Lib.hid (nx B2.out (undrew bP))) | (go_at_call 234; refine (HEJ.out top top_ok _ (HL.out.on BP.out (Nat.le_refl _))).mono ?_; rintro e wN ⟨vN, rfl, bN, oN⟩; have BN := Lib.hid (nx BP.out bN); have ON := Lib.hid (oN.up BP.out.size)) | (refine step_toks (by rfl) _ _ (by rfl) W0.heap.size _ (lst E n J) (by rfl) ((O2.out.keep (undrew bP) (Nat.le_refl _)).keep bN (Nat.le_refl _)) W0.heap.size vN (E (kd n J) top) (by rfl) ON.out HL1.out BN.out.size ?_; intro vA wA oA bA gA; have BA := Lib.hid (BN.out.trans bA); have OA := Lib.hid oA; clear oA bA gA))
        all_goals
          go_wp2
          go_roundw
          case rel => exact ⟨J + 1, by omega, by go_num, by rw [HR.out]; exact OA.out, BA.out⟩
          case measure => simp [intOf]; omega
      · have hj0 : (0 : Int) < (J : Int) := by omega
        rw [if_neg h0] at hle
        have HL0 := Lib.hid (show (lst E n J).length + ([tok 36] : List Tk).length ≤ 1048576 by have := HLEN.out; simp only [List.length_cons, List.length_nil]; omega)
        have HL1 := Lib.hid (show (lst E n J ++ [tok 36]).length + (E (kd n J) top).length ≤ 1048576 by have := HLEN.out; simp only [List.length_cons, List.length_append, List.length_nil] at *; omega)
        have HR := Lib.hid (show lst E n (J + 1) = (lst E n J ++ [tok 36]) ++ E (kd n J) top by rw [lst_succ, if_neg h0])
        clear hle h0
        go_wp2_with (first | (go_at_call 110; refine (spec_tok 36 _).mono ?_; rintro e wS ⟨rfl, bS⟩; have BS := Lib.hid (nx B2.out bS); have OS := Lib.hid (O2.out.keep bS (Nat.le_refl _)); clear bS) | (at_builtin; refine wpList_toks (by rfl) _ _ (by rfl) W0.heap.size _ (lst E n J) (by rfl) (OS.out.keep ((Below.refl _ _).alloc (Nat.le_refl _) _) (Nat.le_refl _)) W0.heap.size _ [tok 36] (by rfl) (lit1 wS (tok 36) BS.out.size) HL0.out (al BS.out _).size ?_; intro vR wR oR bR gR; have BR := Lib.hid ((al BS.out _).trans bR); have OR := Lib.hid oR; clear oR bR gR))
        have YB := Lib.hid (HY.out _ (dr BR.out))
        go_region_held3 (fun w' => w'.cell? ⟨w.heap.size, 0, none⟩ = some (.slice a m cap) ∧ w'.cell? ⟨w.heap.size, 1, none⟩ = some (.bool fl) ∧ w'.cell? ⟨bk, ok + J, none⟩ = some (.int .i64 (kd n J : Int)))
          (first | (with_reducible exact YB.out) | (with_reducible exact HY.out _ BP.out) | (with_reducible exact HY.out _ BN.out) | (with_reducible exact HY.out _ BA.out))
          (first | (go_at_call 58; refine (ps.spec_top _).mono ?_; rintro e wP ⟨rfl, bP⟩; have BP := Lib.hid (nx BR.out (undrew bP))) | (go_at_call 234; refine (HEJ.out top top_ok _ (HL.out.on BP.out (Nat.le_refl _))).mono ?_; rintro e wN ⟨vN, rfl, bN, oN⟩; have BN := Lib.hid (nx BP.out bN); have ON := Lib.hid (oN.up BP.out.size)) | (refine step_toks (by rfl) _ _ (by rfl) W0.heap.size _ (lst E n J ++ [tok 36]) (by rfl) ((OR.out.keep (undrew bP) (Nat.le_refl _)).keep bN (Nat.le_refl _)) W0.heap.size vN (E (kd n J) top) (by rfl) ON.out HL1.out BN.out.size ?_; intro vA wA oA bA gA; have BA := Lib.hid (BN.out.trans bA); have OA := Lib.hid oA; clear oA bA gA))
        all_goals
          go_wp2
          go_roundw
          case rel => exact ⟨J + 1, by omega, by go_num, by rw [HR.out]; exact OA.out, BA.out⟩
          case measure => simp [intOf]; omega
    · obtain rfl : J = nk := by omega
      go_wp2
      go_ret
      exact ⟨u5, rfl, HB0.out.trans (B2.out.mono HB0.out.size), O2.out.up HB0.out.size⟩
end Go.Proofs.YtiilpnoaocfjgaaGreatDoor.st

namespace Go.Proofs.YtiilpnoaocfjgaaGreatDoor.yd
open Go.ChangeShapes Go.WideShapes Go.ChangeAt Go.RowKit
open tk (Tk)
open own
open nd (Nd Ints)
open ps (Ps top)
open spell (Held)
open et
open st (Out T3 leafK leafS nx al dr undrew wpList_toks step_toks lit1 lit0 kidc)
set_option linter.unusedVariables false
set_option linter.unusedSimpArgs false
set_option maxRecDepth 20000

theorem lf_eq {n : Nd} (hk : rt.isExpr n.k = true) : lf n = if leafK n = 0 then [] else [⟨leafK n, leafS n, 0⟩] := by
  have hr := expr_range hk
  unfold lf leafK leafS
  by_cases h1 : n.k = 1
  · simp [h1]; rfl
  by_cases h2 : n.k = 2
  · simp [h2]; rfl
  by_cases h3 : n.k = 3
  · simp [h3]; rfl
  by_cases h4 : n.k = 4
  · simp [h4]; rfl
  · simp [h1, h2, h3, h4]
def CallY (l : List Nd) (a : Option Addr) (m cap : Nat) (i : Nat) (R : List Tk) : Prop :=
  ∀ (w : World), nd.Lies w.heap.size w a l → Calls Tryz.prog 73 #[.slice a m cap, .int .i64 (i : Int)] w (Out R w)
/-- The boxes of a call: the node and its leaf token. -/
structure Yb (g gt : Nat) (n : Nd) (ak : Option Addr) (ck : Nat) (w : World) : Prop where
  n5 : w.heap[g]? = some (.cells #[.int .i64 n.k, .int .i64 n.op, .string n.s, .string n.t, .slice ak n.kids.length ck] 60 (0, 0))
  t3 : T3 gt (leafK n) (leafS n) 0 w
theorem Yb.keep {g gt : Nat} {n : Nd} {ak : Option Addr} {ck : Nat} {w w' : World} {B : Nat} (h : Yb g gt n ak ck w) (hb : Below B w w') (h1 : g < B) (h2 : gt < B) : Yb g gt n ak ck w' :=
  ⟨(hb.block g h1).trans h.n5, (hb.block gt h2).trans h.t3⟩
theorem Yb.c {g gt : Nat} {n : Nd} {ak : Option Addr} {ck : Nat} {w : World} (h : Yb g gt n ak ck w) : w.cell? ⟨g, 0, none⟩ = some (.int .i64 n.k) ∧ w.cell? ⟨g, 2, none⟩ = some (.string n.s) ∧ w.cell? ⟨g, 4, none⟩ = some (.slice ak n.kids.length ck) ∧ w.cell? ⟨gt, 0, none⟩ = some (.int .i64 (leafK n)) ∧ w.cell? ⟨gt, 1, none⟩ = some (.string (leafS n)) ∧ w.cell? ⟨gt, 2, none⟩ = some (.int .i64 0) :=
  ⟨by rw [cell_of_row _ _ 0 _ _ _ h.n5]; rfl, by rw [cell_of_row _ _ 2 _ _ _ h.n5]; rfl, by rw [cell_of_row _ _ 4 _ _ _ h.n5]; rfl, h.t3.c.1, h.t3.c.2.1, h.t3.c.2.2⟩
def RelYs (w : World) (B0 g gt : Nat) (ak : Option Addr) (ck : Nat) (P : List Tk) (Y : Nat → List Tk) (n : Nd) (o i : Value) (wr : World) : Prop :=
  ∃ J : Nat, J ≤ n.kids.length ∧ i = .int .i64 (J : Int) ∧ own.Own B0 o (P ++ kids Y n J) wr ∧ Below w.heap.size w wr ∧ Yb g gt n ak ck wr ∧ B0 ≤ wr.heap.size
/-- The cases of a walk: what the switch finds. -/
theorem cases6 {n : Nd} (hk : rt.isExpr n.k = true) :
    ((n.k = 5 ∨ n.k = 7 ∨ n.k = 8) ∧ leafK n = 0 ∧ suf n = [] ∧ pre n = [nam (n.k + (if n.k = 5 then 1 else 0)) n.s]) ∨ (n.k = 13 ∧ leafK n = 0 ∧ suf n = [nam 6 n.s] ∧ pre n = []) ∨ (¬ leafK n = 0 ∧ ¬ n.k = 5 ∧ ¬ n.k = 7 ∧ ¬ n.k = 8 ∧ ¬ n.k = 13 ∧ suf n = [] ∧ pre n = []) ∨ (leafK n = 0 ∧ ¬ n.k = 5 ∧ ¬ n.k = 7 ∧ ¬ n.k = 8 ∧ ¬ n.k = 13 ∧ suf n = [] ∧ pre n = []) := by
  have hr := expr_range hk
  unfold suf pre leafK
  by_cases h5 : n.k = 5
  · left; simp [h5]
  by_cases h7 : n.k = 7
  · left; simp [h7]
  by_cases h8 : n.k = 8
  · left; simp [h8]
  by_cases h13 : n.k = 13
  · right; left; simp [h13]
  by_cases h4 : n.k = 1 ∨ n.k = 2 ∨ n.k = 3 ∨ n.k = 4
  · right; right; left
    rcases h4 with h | h | h | h <;> simp [h]
  · right; right; right
    have e1 : ¬ n.k = 1 := by omega
    have e2 : ¬ n.k = 2 := by omega
    have e3 : ¬ n.k = 3 := by omega
    have e4 : ¬ n.k = 4 := by omega
    simp [h5, h7, h8, h13, e1, e2, e3, e4]

set_option maxHeartbeats 6400000 in
theorem yield_step {l : List Nd} {a : Option Addr} {m cap : Nat} {Y : Nat → List Tk} (i : Nat) (n : Nd) (hm : m = l.length) (hmx : m ≤ 1048576) (hi : i < m) (hn : l.getD i default = n) (hg : et.Good l i n) (hlen : ∀ J, J ≤ n.kids.length → (pre n ++ kids Y n J).length ≤ 100000) (hlk : ∀ K, K < n.kids.length → (Y (kd n K)).length ≤ 100000)
    (hE : ∀ K, K < n.kids.length → CallY l a m cap (kd n K) (Y (kd n K))) : CallY l a m cap i (yn Y n) := by
  intro w hc
  have hil : i < l.length := hm ▸ hi
  have hnn := hn
  rw [getD_at hil] at hn
  obtain ⟨bl, ol, rfl, hbl, hnode⟩ := nd.lies_at hc hil
  obtain ⟨ak, ck, h5, hik⟩ := hnode i hil
  rw [hn] at h5 hik
  have HL := Lib.hid hc
  have HI := Lib.hid hik
  have HE := Lib.hid hE
  have HKD := Lib.hid (fun K hK => (hg.kids K hK).2.1)
  have HLEN := Lib.hid hlen
  have HLK := Lib.hid hlk
  have HLF := Lib.hid (lf_eq hg.kind)
  have HM6 := Lib.hid hg.most
  obtain ⟨c0, c1, c2, c3, c4⟩ := h5
  have hi0 : (0 : Int) ≤ (i : Int) := by omega
  have hi1 : (i : Int) < (m : Int) := by omega
  have hcs := cases6 hg.kind
  obtain ⟨nk, hnk⟩ : ∃ nk, n.kids.length = nk := ⟨_, rfl⟩
  have HNK := Lib.hid hnk
  have hnk6 : nk ≤ 6 := by have := HM6.out; omega
  rw [hnk] at c4
  have hb0 : ∀ o, Below w.heap.size w (w.alloc o) := fun o => (Below.refl _ _).alloc (Nat.le_refl _) _
  have HB0 := Lib.hid hb0
  clear hc hnode hik hE hlen hlk hn hnn hg hb0 hm hnk hil
  have HN5 := Lib.hid (show (w.alloc (.cells #[.int .i64 n.k, .int .i64 n.op, .string n.s, .string n.t, .slice ak nk ck] 60)).heap[w.heap.size]? = some (.cells #[.int .i64 n.k, .int .i64 n.op, .string n.s, .string n.t, .slice ak nk ck] 60 (0, 0)) from heap_alloc_new w _)
  have hsz1 : ∀ o, (w.alloc o).heap.size = w.heap.size + 1 := fun o => by simp
  have HSZ1 := Lib.hid hsz1
  clear hsz1
  go_enter Tryz.func73, Tryz.ntmps73
  go_wp2_with fail
  have HLEAF := Lib.hid (st.spec_leaf n ak ck (w.alloc (.cells #[.int .i64 n.k, .int .i64 n.op, .string n.s, .string n.t, .slice ak nk ck] 60)))
  rw [HNK.out] at HLEAF
  refine HLEAF.out.mono ?_
  rintro e w1 ⟨rfl, b1⟩
  -- WALK
  have H1 := Lib.hid (show w1.heap[w.heap.size]? = some (.cells #[.int .i64 n.k, .int .i64 n.op, .string n.s, .string n.t, .slice ak nk ck] 60 (0, 0)) from (b1.block w.heap.size (by rw [HSZ1.out]; omega)).trans HN5.out)
  have BW1 := Lib.hid (show Below w.heap.size w w1 from (HB0.out _).trans (b1.mono (by rw [HSZ1.out]; omega)))
  have hs1 : w.heap.size < w1.heap.size := by have := b1.size; rw [HSZ1.out] at this; omega
  clear b1 HLEAF HB0 HN5 HSZ1 c0 c1 c2 c3 c4
  have T3F := Lib.hid (heap_alloc_new w1 (.cells #[.int .i64 (leafK n), .string (leafS n), .int .i64 0] 35))
  have W3S := Lib.hid (show ((w1.alloc (.cells #[.int .i64 (leafK n), .string (leafS n), .int .i64 0] 35)).alloc (.cells #[] 35)).heap.size = w1.heap.size + 1 + 1 by simp)
  have BX := Lib.hid (show Below w1.heap.size w1 ((w1.alloc (.cells #[.int .i64 (leafK n), .string (leafS n), .int .i64 0] 35)).alloc (.cells #[] 35)) from ((Below.refl _ _).alloc (Nat.le_refl _) _).alloc (by simp) _)
  have YX := Lib.hid (show Yb w.heap.size w1.heap.size n ak ck ((w1.alloc (.cells #[.int .i64 (leafK n), .string (leafS n), .int .i64 0] 35)).alloc (.cells #[] 35)) from ⟨by rw [HNK.out]; exact (BX.out.block _ hs1).trans H1.out, (Below.heap_alloc _ _ _ (by simp)).trans T3F.out⟩)
  have OX := Lib.hid (show own.Own (w1.heap.size + 1) (.slice (some ⟨w1.heap.size + 1, 0, none⟩) 0 0) [] ((w1.alloc (.cells #[.int .i64 (leafK n), .string (leafS n), .int .i64 0] 35)).alloc (.cells #[] 35)) by
    have h := lit0 (w1.heap.size + 1) (w1.alloc (.cells #[.int .i64 (leafK n), .string (leafS n), .int .i64 0] 35)) (by simp) 35 rfl
    rw [show ∀ o, (w1.alloc o).heap.size = w1.heap.size + 1 from fun o => by simp] at h
    exact h)
  have BWX := Lib.hid (show Below w.heap.size w ((w1.alloc (.cells #[.int .i64 (leafK n), .string (leafS n), .int .i64 0] 35)).alloc (.cells #[] 35)) from BW1.out.trans (BX.out.mono BW1.out.size))
  obtain ⟨x0, x2, x4, y0, y1, y2⟩ := YX.out.c
  rw [HNK.out] at x4
  clear H1 T3F BX
  rcases hcs with ⟨h578, hlk0, hsuf, hpre⟩ | ⟨h13, hlk0, hsuf, hpre⟩ | ⟨hlk0, h5, h7, h8, h13, hsuf, hpre⟩ | ⟨hlk0, h5, h7, h8, h13, hsuf, hpre⟩
  · have HSUF := Lib.hid hsuf
    have HLF2 := Lib.hid (show lf n = [] by rw [HLF.out, if_pos hlk0])
    have l0 : (leafK n == 0) = true := by rw [hlk0]; rfl
    have l1 : (leafK n != 0) = false := by rw [hlk0]; rfl
    rcases h578 with h | h | h
    · have HPRE := Lib.hid (show pre n = [⟨6, n.s, 0⟩] by rw [hpre, h]; rfl)
      have q5 := (rt.eq_facts h).1
      have q7 := (rt.ne_facts (show ¬ n.k = 7 by omega)).1
      have q8 := (rt.ne_facts (show ¬ n.k = 8 by omega)).1
      have q13 := (rt.ne_facts (show ¬ n.k = 13 by omega)).1
      clear hlk0 hsuf hpre h
      go_wp2_with (at_builtin; refine own.wpList_append_tok _ ⟨6, n.s, 0⟩ rfl _ _ rfl (w1.heap.size + 1) _ [] rfl OX.out (by first | rfl | simp [Act.eval]) (by simp) (by simp) ?n3)
      case n3 =>
        intro v4 w4 o4 b4 g4
        have O0 := Lib.hid (show own.Own (w1.heap.size + 1) v4 ([⟨6, n.s, 0⟩] : List Tk) w4 from o4)
        have B0 := Lib.hid (BWX.out.trans (b4.mono (Nat.le_of_lt (Nat.lt_succ_of_lt hs1))))
        have Y0 := Lib.hid (YX.out.keep b4 (Nat.lt_succ_of_lt hs1) (Nat.lt_succ_self _))
        have S0 := Lib.hid (show w1.heap.size + 1 ≤ w4.heap.size by have := b4.size; rw [W3S.out] at this; omega)
        clear o4 b4 g4 x0 x2 x4 y0 y1 y2
        go_wp2
        go_loopw [7, 8] (fun o i wr => RelYs w (w1.heap.size + 1) w.heap.size w1.heap.size ak ck ([⟨6, n.s, 0⟩] : List Tk) Y n o i wr) (fun _ i _ => nk - (intOf i).toNat)
        case atStart => exact ⟨0, Nat.zero_le _, rfl, by rw [show ([⟨6, n.s, 0⟩] : List Tk) ++ kids Y n 0 = ([⟨6, n.s, 0⟩] : List Tk) from List.append_nil _]; exact O0.out, B0.out, Y0.out, S0.out⟩
        case round =>
          obtain ⟨J, hJ, rfl, own2, b2, yb2, s2⟩ := hrel
          have O2 := Lib.hid own2
          have B2 := Lib.hid b2
          have Y2 := Lib.hid yb2
          have S2 := Lib.hid s2
          rw [HNK.out] at hJ
          clear own2 b2 yb2 s2
          obtain ⟨k0, k2, k4, t0, t1, t2⟩ := Y2.out.c
          rw [HNK.out] at k4
          by_cases hlt : J < nk
          · have hltk : J < n.kids.length := by have := HNK.out; omega
            obtain ⟨bk, ok, rfl, hbk, hkc⟩ := kidc HI.out B2.out hltk (HKD.out J hltk)
            have hi1 : (J : Int) < (nk : Int) := by omega
            have hi2 : (0 : Int) ≤ (J : Int) := by omega
            have HEJ := Lib.hid (HE.out J hltk)
            have HL1 := Lib.hid (show (([⟨6, n.s, 0⟩] : List Tk) ++ kids Y n J).length + (Y (kd n J)).length ≤ 1048576 by have h1 := HLEN.out J (by omega); rw [HPRE.out] at h1; have h2 := HLK.out J hltk; omega)
            go_wp2_with (first | (go_at_call 73; refine (HEJ.out _ (HL.out.on B2.out (Nat.le_refl _))).mono ?_; rintro e w5 ⟨v5, rfl, b5, o5⟩; have B5 := Lib.hid (B2.out.trans (b5.mono B2.out.size)); have C5 := Lib.hid b5; have Y5 := Lib.hid (Y2.out.keep b5 (Nat.lt_of_lt_of_le hs1 (Nat.le_of_succ_le S2.out)) S2.out); have P5 := Lib.hid (O2.out.keep b5 (Nat.le_refl _)); have O5 := Lib.hid o5; have S5 := Lib.hid (Nat.le_trans S2.out b5.size); clear b5 o5 k0 k2 k4 t0 t1 t2) | (at_builtin; refine wpList_toks (by rfl) _ _ (by rfl) (w1.heap.size + 1) _ (([⟨6, n.s, 0⟩] : List Tk) ++ kids Y n J) (by rfl) P5.out _ _ (Y (kd n J)) (by rfl) O5.out HL1.out S5.out ?_; intro v6 w6 o6 b6 g6; have O6 := Lib.hid o6; have B6 := Lib.hid (B5.out.trans (b6.mono (Nat.le_of_lt (Nat.lt_succ_of_lt hs1)))); have Y6 := Lib.hid (Y5.out.keep b6 (Nat.lt_succ_of_lt hs1) (Nat.lt_succ_self _)); have S6 := Lib.hid (Nat.le_trans S5.out b6.size); clear o6 b6 g6))
            go_roundw
            case rel => exact ⟨J + 1, by omega, by go_num, by rw [show ([⟨6, n.s, 0⟩] : List Tk) ++ kids Y n (J + 1) = ([⟨6, n.s, 0⟩] : List Tk) ++ kids Y n J ++ Y (kd n J) from (List.append_assoc _ _ _).symm]; exact O6.out, B6.out, Y6.out, S6.out⟩
            case measure => simp [intOf]; omega
          · obtain rfl : J = nk := by omega
            have hi1 : ¬ (J : Int) < (J : Int) := by omega
            rw [show kids Y n J = kids Y n n.kids.length by rw [HNK.out]] at O2
            have HD := Lib.hid (show (([⟨6, n.s, 0⟩] : List Tk) ++ kids Y n n.kids.length).length ≤ 1048576 by have := HLEN.out _ (Nat.le_refl _); rw [HPRE.out] at this; omega)
            go_wp2
            go_ret
            refine ⟨u7, rfl, B2.out, ?_⟩
            unfold yn
            rw [HPRE.out, HSUF.out, HLF2.out, List.append_nil, List.append_nil]
            exact O2.out.up (Nat.le_of_lt (Nat.lt_succ_of_lt hs1))
    · have HPRE := Lib.hid (show pre n = [⟨7, n.s, 0⟩] by rw [hpre, h]; rfl)
      have q5 := (rt.ne_facts (show ¬ n.k = 5 by omega)).1
      have q7 := (rt.eq_facts h).1
      have q8 := (rt.ne_facts (show ¬ n.k = 8 by omega)).1
      have q13 := (rt.ne_facts (show ¬ n.k = 13 by omega)).1
      clear hlk0 hsuf hpre h
      go_wp2_with (at_builtin; refine own.wpList_append_tok _ ⟨7, n.s, 0⟩ rfl _ _ rfl (w1.heap.size + 1) _ [] rfl OX.out (by first | rfl | simp [Act.eval]) (by simp) (by simp) ?n3)
      case n3 =>
        intro v4 w4 o4 b4 g4
        have O0 := Lib.hid (show own.Own (w1.heap.size + 1) v4 ([⟨7, n.s, 0⟩] : List Tk) w4 from o4)
        have B0 := Lib.hid (BWX.out.trans (b4.mono (Nat.le_of_lt (Nat.lt_succ_of_lt hs1))))
        have Y0 := Lib.hid (YX.out.keep b4 (Nat.lt_succ_of_lt hs1) (Nat.lt_succ_self _))
        have S0 := Lib.hid (show w1.heap.size + 1 ≤ w4.heap.size by have := b4.size; rw [W3S.out] at this; omega)
        clear o4 b4 g4 x0 x2 x4 y0 y1 y2
        go_wp2
        go_loopw [7, 8] (fun o i wr => RelYs w (w1.heap.size + 1) w.heap.size w1.heap.size ak ck ([⟨7, n.s, 0⟩] : List Tk) Y n o i wr) (fun _ i _ => nk - (intOf i).toNat)
        case atStart => exact ⟨0, Nat.zero_le _, rfl, by rw [show ([⟨7, n.s, 0⟩] : List Tk) ++ kids Y n 0 = ([⟨7, n.s, 0⟩] : List Tk) from List.append_nil _]; exact O0.out, B0.out, Y0.out, S0.out⟩
        case round =>
          obtain ⟨J, hJ, rfl, own2, b2, yb2, s2⟩ := hrel
          have O2 := Lib.hid own2
          have B2 := Lib.hid b2
          have Y2 := Lib.hid yb2
          have S2 := Lib.hid s2
          rw [HNK.out] at hJ
          clear own2 b2 yb2 s2
          obtain ⟨k0, k2, k4, t0, t1, t2⟩ := Y2.out.c
          rw [HNK.out] at k4
          by_cases hlt : J < nk
          · have hltk : J < n.kids.length := by have := HNK.out; omega
            obtain ⟨bk, ok, rfl, hbk, hkc⟩ := kidc HI.out B2.out hltk (HKD.out J hltk)
            have hi1 : (J : Int) < (nk : Int) := by omega
            have hi2 : (0 : Int) ≤ (J : Int) := by omega
            have HEJ := Lib.hid (HE.out J hltk)
            have HL1 := Lib.hid (show (([⟨7, n.s, 0⟩] : List Tk) ++ kids Y n J).length + (Y (kd n J)).length ≤ 1048576 by have h1 := HLEN.out J (by omega); rw [HPRE.out] at h1; have h2 := HLK.out J hltk; omega)
            go_wp2_with (first | (go_at_call 73; refine (HEJ.out _ (HL.out.on B2.out (Nat.le_refl _))).mono ?_; rintro e w5 ⟨v5, rfl, b5, o5⟩; have B5 := Lib.hid (B2.out.trans (b5.mono B2.out.size)); have C5 := Lib.hid b5; have Y5 := Lib.hid (Y2.out.keep b5 (Nat.lt_of_lt_of_le hs1 (Nat.le_of_succ_le S2.out)) S2.out); have P5 := Lib.hid (O2.out.keep b5 (Nat.le_refl _)); have O5 := Lib.hid o5; have S5 := Lib.hid (Nat.le_trans S2.out b5.size); clear b5 o5 k0 k2 k4 t0 t1 t2) | (at_builtin; refine wpList_toks (by rfl) _ _ (by rfl) (w1.heap.size + 1) _ (([⟨7, n.s, 0⟩] : List Tk) ++ kids Y n J) (by rfl) P5.out _ _ (Y (kd n J)) (by rfl) O5.out HL1.out S5.out ?_; intro v6 w6 o6 b6 g6; have O6 := Lib.hid o6; have B6 := Lib.hid (B5.out.trans (b6.mono (Nat.le_of_lt (Nat.lt_succ_of_lt hs1)))); have Y6 := Lib.hid (Y5.out.keep b6 (Nat.lt_succ_of_lt hs1) (Nat.lt_succ_self _)); have S6 := Lib.hid (Nat.le_trans S5.out b6.size); clear o6 b6 g6))
            go_roundw
            case rel => exact ⟨J + 1, by omega, by go_num, by rw [show ([⟨7, n.s, 0⟩] : List Tk) ++ kids Y n (J + 1) = ([⟨7, n.s, 0⟩] : List Tk) ++ kids Y n J ++ Y (kd n J) from (List.append_assoc _ _ _).symm]; exact O6.out, B6.out, Y6.out, S6.out⟩
            case measure => simp [intOf]; omega
          · obtain rfl : J = nk := by omega
            have hi1 : ¬ (J : Int) < (J : Int) := by omega
            rw [show kids Y n J = kids Y n n.kids.length by rw [HNK.out]] at O2
            have HD := Lib.hid (show (([⟨7, n.s, 0⟩] : List Tk) ++ kids Y n n.kids.length).length ≤ 1048576 by have := HLEN.out _ (Nat.le_refl _); rw [HPRE.out] at this; omega)
            go_wp2
            go_ret
            refine ⟨u7, rfl, B2.out, ?_⟩
            unfold yn
            rw [HPRE.out, HSUF.out, HLF2.out, List.append_nil, List.append_nil]
            exact O2.out.up (Nat.le_of_lt (Nat.lt_succ_of_lt hs1))
    · have HPRE := Lib.hid (show pre n = [⟨8, n.s, 0⟩] by rw [hpre, h]; rfl)
      have q5 := (rt.ne_facts (show ¬ n.k = 5 by omega)).1
      have q7 := (rt.ne_facts (show ¬ n.k = 7 by omega)).1
      have q8 := (rt.eq_facts h).1
      have q13 := (rt.ne_facts (show ¬ n.k = 13 by omega)).1
      clear hlk0 hsuf hpre h
      go_wp2_with (at_builtin; refine own.wpList_append_tok _ ⟨8, n.s, 0⟩ rfl _ _ rfl (w1.heap.size + 1) _ [] rfl OX.out (by first | rfl | simp [Act.eval]) (by simp) (by simp) ?n3)
      case n3 =>
        intro v4 w4 o4 b4 g4
        have O0 := Lib.hid (show own.Own (w1.heap.size + 1) v4 ([⟨8, n.s, 0⟩] : List Tk) w4 from o4)
        have B0 := Lib.hid (BWX.out.trans (b4.mono (Nat.le_of_lt (Nat.lt_succ_of_lt hs1))))
        have Y0 := Lib.hid (YX.out.keep b4 (Nat.lt_succ_of_lt hs1) (Nat.lt_succ_self _))
        have S0 := Lib.hid (show w1.heap.size + 1 ≤ w4.heap.size by have := b4.size; rw [W3S.out] at this; omega)
        clear o4 b4 g4 x0 x2 x4 y0 y1 y2
        go_wp2
        go_loopw [7, 8] (fun o i wr => RelYs w (w1.heap.size + 1) w.heap.size w1.heap.size ak ck ([⟨8, n.s, 0⟩] : List Tk) Y n o i wr) (fun _ i _ => nk - (intOf i).toNat)
        case atStart => exact ⟨0, Nat.zero_le _, rfl, by rw [show ([⟨8, n.s, 0⟩] : List Tk) ++ kids Y n 0 = ([⟨8, n.s, 0⟩] : List Tk) from List.append_nil _]; exact O0.out, B0.out, Y0.out, S0.out⟩
        case round =>
          obtain ⟨J, hJ, rfl, own2, b2, yb2, s2⟩ := hrel
          have O2 := Lib.hid own2
          have B2 := Lib.hid b2
          have Y2 := Lib.hid yb2
          have S2 := Lib.hid s2
          rw [HNK.out] at hJ
          clear own2 b2 yb2 s2
          obtain ⟨k0, k2, k4, t0, t1, t2⟩ := Y2.out.c
          rw [HNK.out] at k4
          by_cases hlt : J < nk
          · have hltk : J < n.kids.length := by have := HNK.out; omega
            obtain ⟨bk, ok, rfl, hbk, hkc⟩ := kidc HI.out B2.out hltk (HKD.out J hltk)
            have hi1 : (J : Int) < (nk : Int) := by omega
            have hi2 : (0 : Int) ≤ (J : Int) := by omega
            have HEJ := Lib.hid (HE.out J hltk)
            have HL1 := Lib.hid (show (([⟨8, n.s, 0⟩] : List Tk) ++ kids Y n J).length + (Y (kd n J)).length ≤ 1048576 by have h1 := HLEN.out J (by omega); rw [HPRE.out] at h1; have h2 := HLK.out J hltk; omega)
            go_wp2_with (first | (go_at_call 73; refine (HEJ.out _ (HL.out.on B2.out (Nat.le_refl _))).mono ?_; rintro e w5 ⟨v5, rfl, b5, o5⟩; have B5 := Lib.hid (B2.out.trans (b5.mono B2.out.size)); have C5 := Lib.hid b5; have Y5 := Lib.hid (Y2.out.keep b5 (Nat.lt_of_lt_of_le hs1 (Nat.le_of_succ_le S2.out)) S2.out); have P5 := Lib.hid (O2.out.keep b5 (Nat.le_refl _)); have O5 := Lib.hid o5; have S5 := Lib.hid (Nat.le_trans S2.out b5.size); clear b5 o5 k0 k2 k4 t0 t1 t2) | (at_builtin; refine wpList_toks (by rfl) _ _ (by rfl) (w1.heap.size + 1) _ (([⟨8, n.s, 0⟩] : List Tk) ++ kids Y n J) (by rfl) P5.out _ _ (Y (kd n J)) (by rfl) O5.out HL1.out S5.out ?_; intro v6 w6 o6 b6 g6; have O6 := Lib.hid o6; have B6 := Lib.hid (B5.out.trans (b6.mono (Nat.le_of_lt (Nat.lt_succ_of_lt hs1)))); have Y6 := Lib.hid (Y5.out.keep b6 (Nat.lt_succ_of_lt hs1) (Nat.lt_succ_self _)); have S6 := Lib.hid (Nat.le_trans S5.out b6.size); clear o6 b6 g6))
            go_roundw
            case rel => exact ⟨J + 1, by omega, by go_num, by rw [show ([⟨8, n.s, 0⟩] : List Tk) ++ kids Y n (J + 1) = ([⟨8, n.s, 0⟩] : List Tk) ++ kids Y n J ++ Y (kd n J) from (List.append_assoc _ _ _).symm]; exact O6.out, B6.out, Y6.out, S6.out⟩
            case measure => simp [intOf]; omega
          · obtain rfl : J = nk := by omega
            have hi1 : ¬ (J : Int) < (J : Int) := by omega
            rw [show kids Y n J = kids Y n n.kids.length by rw [HNK.out]] at O2
            have HD := Lib.hid (show (([⟨8, n.s, 0⟩] : List Tk) ++ kids Y n n.kids.length).length ≤ 1048576 by have := HLEN.out _ (Nat.le_refl _); rw [HPRE.out] at this; omega)
            go_wp2
            go_ret
            refine ⟨u7, rfl, B2.out, ?_⟩
            unfold yn
            rw [HPRE.out, HSUF.out, HLF2.out, List.append_nil, List.append_nil]
            exact O2.out.up (Nat.le_of_lt (Nat.lt_succ_of_lt hs1))
  · have HPRE := Lib.hid hpre
    have HSUF := Lib.hid hsuf
    have HLF2 := Lib.hid (show lf n = [] by rw [HLF.out, if_pos hlk0])
    have l0 : (leafK n == 0) = true := by rw [hlk0]; rfl
    have l1 : (leafK n != 0) = false := by rw [hlk0]; rfl
    have q5 := (rt.ne_facts (show ¬ n.k = 5 by omega)).1
    have q7 := (rt.ne_facts (show ¬ n.k = 7 by omega)).1
    have q8 := (rt.ne_facts (show ¬ n.k = 8 by omega)).1
    have q13 := (rt.eq_facts h13).1
    clear hlk0 hsuf hpre h13
    have O0 := Lib.hid OX.out
    have B0 := Lib.hid BWX.out
    have Y0 := Lib.hid YX.out
    have S0 := Lib.hid (show w1.heap.size + 1 ≤ ((w1.alloc (.cells #[.int .i64 (leafK n), .string (leafS n), .int .i64 0] 35)).alloc (.cells #[] 35)).heap.size from by rw [W3S.out]; omega)
    go_wp2
    go_loopw [7, 8] (fun o i wr => RelYs w (w1.heap.size + 1) w.heap.size w1.heap.size ak ck ([] : List Tk) Y n o i wr) (fun _ i _ => nk - (intOf i).toNat)
    case atStart => exact ⟨0, Nat.zero_le _, rfl, by rw [show ([] : List Tk) ++ kids Y n 0 = ([] : List Tk) from List.append_nil _]; exact O0.out, B0.out, Y0.out, S0.out⟩
    case round =>
      obtain ⟨J, hJ, rfl, own2, b2, yb2, s2⟩ := hrel
      have O2 := Lib.hid own2
      have B2 := Lib.hid b2
      have Y2 := Lib.hid yb2
      have S2 := Lib.hid s2
      rw [HNK.out] at hJ
      clear own2 b2 yb2 s2
      obtain ⟨k0, k2, k4, t0, t1, t2⟩ := Y2.out.c
      rw [HNK.out] at k4
      by_cases hlt : J < nk
      · have hltk : J < n.kids.length := by have := HNK.out; omega
        obtain ⟨bk, ok, rfl, hbk, hkc⟩ := kidc HI.out B2.out hltk (HKD.out J hltk)
        have hi1 : (J : Int) < (nk : Int) := by omega
        have hi2 : (0 : Int) ≤ (J : Int) := by omega
        have HEJ := Lib.hid (HE.out J hltk)
        have HL1 := Lib.hid (show (([] : List Tk) ++ kids Y n J).length + (Y (kd n J)).length ≤ 1048576 by have h1 := HLEN.out J (by omega); rw [HPRE.out] at h1; have h2 := HLK.out J hltk; omega)
        go_wp2_with (first | (go_at_call 73; refine (HEJ.out _ (HL.out.on B2.out (Nat.le_refl _))).mono ?_; rintro e w5 ⟨v5, rfl, b5, o5⟩; have B5 := Lib.hid (B2.out.trans (b5.mono B2.out.size)); have C5 := Lib.hid b5; have Y5 := Lib.hid (Y2.out.keep b5 (Nat.lt_of_lt_of_le hs1 (Nat.le_of_succ_le S2.out)) S2.out); have P5 := Lib.hid (O2.out.keep b5 (Nat.le_refl _)); have O5 := Lib.hid o5; have S5 := Lib.hid (Nat.le_trans S2.out b5.size); clear b5 o5 k0 k2 k4 t0 t1 t2) | (at_builtin; refine wpList_toks (by rfl) _ _ (by rfl) (w1.heap.size + 1) _ (([] : List Tk) ++ kids Y n J) (by rfl) P5.out _ _ (Y (kd n J)) (by rfl) O5.out HL1.out S5.out ?_; intro v6 w6 o6 b6 g6; have O6 := Lib.hid o6; have B6 := Lib.hid (B5.out.trans (b6.mono (Nat.le_of_lt (Nat.lt_succ_of_lt hs1)))); have Y6 := Lib.hid (Y5.out.keep b6 (Nat.lt_succ_of_lt hs1) (Nat.lt_succ_self _)); have S6 := Lib.hid (Nat.le_trans S5.out b6.size); clear o6 b6 g6))
        go_roundw
        case rel => exact ⟨J + 1, by omega, by go_num, by rw [show ([] : List Tk) ++ kids Y n (J + 1) = ([] : List Tk) ++ kids Y n J ++ Y (kd n J) from (List.append_assoc _ _ _).symm]; exact O6.out, B6.out, Y6.out, S6.out⟩
        case measure => simp [intOf]; omega
      · obtain rfl : J = nk := by omega
        have hi1 : ¬ (J : Int) < (J : Int) := by omega
        rw [show kids Y n J = kids Y n n.kids.length by rw [HNK.out]] at O2
        have HD := Lib.hid (show (([] : List Tk) ++ kids Y n n.kids.length).length ≤ 1048576 by have := HLEN.out _ (Nat.le_refl _); rw [HPRE.out] at this; omega)
        go_wp2_with (at_builtin; refine own.wpList_append_tok _ ⟨6, n.s, 0⟩ rfl _ _ rfl (w1.heap.size + 1) _ (([] : List Tk) ++ kids Y n n.kids.length) rfl O2.out (by first | rfl | simp [Act.eval]) HD.out S2.out ?n3)
        case n3 =>
          intro v6 w6 o6 b6 g6
          have O6 := Lib.hid o6
          have B6 := Lib.hid (B2.out.trans (b6.mono (Nat.le_of_lt (Nat.lt_succ_of_lt hs1))))
          have Y6 := Lib.hid (Y2.out.keep b6 (Nat.lt_succ_of_lt hs1) (Nat.lt_succ_self _))
          clear o6 b6 g6 k0 k2 k4 t0 t1 t2
          obtain ⟨k0, k2, k4, t0, t1, t2⟩ := Y6.out.c
          go_wp2
          go_ret
          refine ⟨v6, rfl, B6.out, ?_⟩
          unfold yn
          rw [HPRE.out, HSUF.out, HLF2.out]
          rw [List.append_nil]
          exact O6.out.up (Nat.le_of_lt (Nat.lt_succ_of_lt hs1))
  · have HPRE := Lib.hid hpre
    have HSUF := Lib.hid hsuf
    have HLF2 := Lib.hid (show lf n = [⟨leafK n, leafS n, 0⟩] by rw [HLF.out, if_neg hlk0])
    have l0 : (leafK n == 0) = false := by exact (rt.ne_facts hlk0).1
    have l1 : (leafK n != 0) = true := by exact (rt.ne_facts hlk0).2
    have q5 := (rt.ne_facts h5).1
    have q7 := (rt.ne_facts h7).1
    have q8 := (rt.ne_facts h8).1
    have q13 := (rt.ne_facts h13).1
    clear hlk0 hsuf hpre h5 h7 h8 h13
    have O0 := Lib.hid OX.out
    have B0 := Lib.hid BWX.out
    have Y0 := Lib.hid YX.out
    have S0 := Lib.hid (show w1.heap.size + 1 ≤ ((w1.alloc (.cells #[.int .i64 (leafK n), .string (leafS n), .int .i64 0] 35)).alloc (.cells #[] 35)).heap.size from by rw [W3S.out]; omega)
    go_wp2
    go_loopw [7, 8] (fun o i wr => RelYs w (w1.heap.size + 1) w.heap.size w1.heap.size ak ck ([] : List Tk) Y n o i wr) (fun _ i _ => nk - (intOf i).toNat)
    case atStart => exact ⟨0, Nat.zero_le _, rfl, by rw [show ([] : List Tk) ++ kids Y n 0 = ([] : List Tk) from List.append_nil _]; exact O0.out, B0.out, Y0.out, S0.out⟩
    case round =>
      obtain ⟨J, hJ, rfl, own2, b2, yb2, s2⟩ := hrel
      have O2 := Lib.hid own2
      have B2 := Lib.hid b2
      have Y2 := Lib.hid yb2
      have S2 := Lib.hid s2
      rw [HNK.out] at hJ
      clear own2 b2 yb2 s2
      obtain ⟨k0, k2, k4, t0, t1, t2⟩ := Y2.out.c
      rw [HNK.out] at k4
      by_cases hlt : J < nk
      · have hltk : J < n.kids.length := by have := HNK.out; omega
        obtain ⟨bk, ok, rfl, hbk, hkc⟩ := kidc HI.out B2.out hltk (HKD.out J hltk)
        have hi1 : (J : Int) < (nk : Int) := by omega
        have hi2 : (0 : Int) ≤ (J : Int) := by omega
        have HEJ := Lib.hid (HE.out J hltk)
        have HL1 := Lib.hid (show (([] : List Tk) ++ kids Y n J).length + (Y (kd n J)).length ≤ 1048576 by have h1 := HLEN.out J (by omega); rw [HPRE.out] at h1; have h2 := HLK.out J hltk; omega)
        go_wp2_with (first | (go_at_call 73; refine (HEJ.out _ (HL.out.on B2.out (Nat.le_refl _))).mono ?_; rintro e w5 ⟨v5, rfl, b5, o5⟩; have B5 := Lib.hid (B2.out.trans (b5.mono B2.out.size)); have C5 := Lib.hid b5; have Y5 := Lib.hid (Y2.out.keep b5 (Nat.lt_of_lt_of_le hs1 (Nat.le_of_succ_le S2.out)) S2.out); have P5 := Lib.hid (O2.out.keep b5 (Nat.le_refl _)); have O5 := Lib.hid o5; have S5 := Lib.hid (Nat.le_trans S2.out b5.size); clear b5 o5 k0 k2 k4 t0 t1 t2) | (at_builtin; refine wpList_toks (by rfl) _ _ (by rfl) (w1.heap.size + 1) _ (([] : List Tk) ++ kids Y n J) (by rfl) P5.out _ _ (Y (kd n J)) (by rfl) O5.out HL1.out S5.out ?_; intro v6 w6 o6 b6 g6; have O6 := Lib.hid o6; have B6 := Lib.hid (B5.out.trans (b6.mono (Nat.le_of_lt (Nat.lt_succ_of_lt hs1)))); have Y6 := Lib.hid (Y5.out.keep b6 (Nat.lt_succ_of_lt hs1) (Nat.lt_succ_self _)); have S6 := Lib.hid (Nat.le_trans S5.out b6.size); clear o6 b6 g6))
        go_roundw
        case rel => exact ⟨J + 1, by omega, by go_num, by rw [show ([] : List Tk) ++ kids Y n (J + 1) = ([] : List Tk) ++ kids Y n J ++ Y (kd n J) from (List.append_assoc _ _ _).symm]; exact O6.out, B6.out, Y6.out, S6.out⟩
        case measure => simp [intOf]; omega
      · obtain rfl : J = nk := by omega
        have hi1 : ¬ (J : Int) < (J : Int) := by omega
        rw [show kids Y n J = kids Y n n.kids.length by rw [HNK.out]] at O2
        have HD := Lib.hid (show (([] : List Tk) ++ kids Y n n.kids.length).length ≤ 1048576 by have := HLEN.out _ (Nat.le_refl _); rw [HPRE.out] at this; omega)
        go_wp2_with (at_builtin; refine own.wpList_append_tok _ ⟨leafK n, leafS n, 0⟩ rfl _ _ rfl (w1.heap.size + 1) _ (([] : List Tk) ++ kids Y n n.kids.length) rfl O2.out (by first | rfl | simp [Act.eval]) HD.out S2.out ?n3)
        case n3 =>
          intro v6 w6 o6 b6 g6
          have O6 := Lib.hid o6
          have B6 := Lib.hid (B2.out.trans (b6.mono (Nat.le_of_lt (Nat.lt_succ_of_lt hs1))))
          have Y6 := Lib.hid (Y2.out.keep b6 (Nat.lt_succ_of_lt hs1) (Nat.lt_succ_self _))
          clear o6 b6 g6 k0 k2 k4 t0 t1 t2
          obtain ⟨k0, k2, k4, t0, t1, t2⟩ := Y6.out.c
          go_wp2
          go_ret
          refine ⟨v6, rfl, B6.out, ?_⟩
          unfold yn
          rw [HPRE.out, HSUF.out, HLF2.out]
          rw [List.append_nil]
          exact O6.out.up (Nat.le_of_lt (Nat.lt_succ_of_lt hs1))
  · have HPRE := Lib.hid hpre
    have HSUF := Lib.hid hsuf
    have HLF2 := Lib.hid (show lf n = [] by rw [HLF.out, if_pos hlk0])
    have l0 : (leafK n == 0) = true := by rw [hlk0]; rfl
    have l1 : (leafK n != 0) = false := by rw [hlk0]; rfl
    have q5 := (rt.ne_facts h5).1
    have q7 := (rt.ne_facts h7).1
    have q8 := (rt.ne_facts h8).1
    have q13 := (rt.ne_facts h13).1
    clear hlk0 hsuf hpre h5 h7 h8 h13
    have O0 := Lib.hid OX.out
    have B0 := Lib.hid BWX.out
    have Y0 := Lib.hid YX.out
    have S0 := Lib.hid (show w1.heap.size + 1 ≤ ((w1.alloc (.cells #[.int .i64 (leafK n), .string (leafS n), .int .i64 0] 35)).alloc (.cells #[] 35)).heap.size from by rw [W3S.out]; omega)
    go_wp2
    go_loopw [7, 8] (fun o i wr => RelYs w (w1.heap.size + 1) w.heap.size w1.heap.size ak ck ([] : List Tk) Y n o i wr) (fun _ i _ => nk - (intOf i).toNat)
    case atStart => exact ⟨0, Nat.zero_le _, rfl, by rw [show ([] : List Tk) ++ kids Y n 0 = ([] : List Tk) from List.append_nil _]; exact O0.out, B0.out, Y0.out, S0.out⟩
    case round =>
      obtain ⟨J, hJ, rfl, own2, b2, yb2, s2⟩ := hrel
      have O2 := Lib.hid own2
      have B2 := Lib.hid b2
      have Y2 := Lib.hid yb2
      have S2 := Lib.hid s2
      rw [HNK.out] at hJ
      clear own2 b2 yb2 s2
      obtain ⟨k0, k2, k4, t0, t1, t2⟩ := Y2.out.c
      rw [HNK.out] at k4
      by_cases hlt : J < nk
      · have hltk : J < n.kids.length := by have := HNK.out; omega
        obtain ⟨bk, ok, rfl, hbk, hkc⟩ := kidc HI.out B2.out hltk (HKD.out J hltk)
        have hi1 : (J : Int) < (nk : Int) := by omega
        have hi2 : (0 : Int) ≤ (J : Int) := by omega
        have HEJ := Lib.hid (HE.out J hltk)
        have HL1 := Lib.hid (show (([] : List Tk) ++ kids Y n J).length + (Y (kd n J)).length ≤ 1048576 by have h1 := HLEN.out J (by omega); rw [HPRE.out] at h1; have h2 := HLK.out J hltk; omega)
        go_wp2_with (first | (go_at_call 73; refine (HEJ.out _ (HL.out.on B2.out (Nat.le_refl _))).mono ?_; rintro e w5 ⟨v5, rfl, b5, o5⟩; have B5 := Lib.hid (B2.out.trans (b5.mono B2.out.size)); have C5 := Lib.hid b5; have Y5 := Lib.hid (Y2.out.keep b5 (Nat.lt_of_lt_of_le hs1 (Nat.le_of_succ_le S2.out)) S2.out); have P5 := Lib.hid (O2.out.keep b5 (Nat.le_refl _)); have O5 := Lib.hid o5; have S5 := Lib.hid (Nat.le_trans S2.out b5.size); clear b5 o5 k0 k2 k4 t0 t1 t2) | (at_builtin; refine wpList_toks (by rfl) _ _ (by rfl) (w1.heap.size + 1) _ (([] : List Tk) ++ kids Y n J) (by rfl) P5.out _ _ (Y (kd n J)) (by rfl) O5.out HL1.out S5.out ?_; intro v6 w6 o6 b6 g6; have O6 := Lib.hid o6; have B6 := Lib.hid (B5.out.trans (b6.mono (Nat.le_of_lt (Nat.lt_succ_of_lt hs1)))); have Y6 := Lib.hid (Y5.out.keep b6 (Nat.lt_succ_of_lt hs1) (Nat.lt_succ_self _)); have S6 := Lib.hid (Nat.le_trans S5.out b6.size); clear o6 b6 g6))
        go_roundw
        case rel => exact ⟨J + 1, by omega, by go_num, by rw [show ([] : List Tk) ++ kids Y n (J + 1) = ([] : List Tk) ++ kids Y n J ++ Y (kd n J) from (List.append_assoc _ _ _).symm]; exact O6.out, B6.out, Y6.out, S6.out⟩
        case measure => simp [intOf]; omega
      · obtain rfl : J = nk := by omega
        have hi1 : ¬ (J : Int) < (J : Int) := by omega
        rw [show kids Y n J = kids Y n n.kids.length by rw [HNK.out]] at O2
        have HD := Lib.hid (show (([] : List Tk) ++ kids Y n n.kids.length).length ≤ 1048576 by have := HLEN.out _ (Nat.le_refl _); rw [HPRE.out] at this; omega)
        go_wp2
        go_ret
        refine ⟨u7, rfl, B2.out, ?_⟩
        unfold yn
        rw [HPRE.out, HSUF.out, HLF2.out, List.append_nil, List.append_nil]
        exact O2.out.up (Nat.le_of_lt (Nat.lt_succ_of_lt hs1))
/-! ### behind the step -/
theorem kids_split (Y : Nat → List Tk) (n : Nd) (J : Nat) : ∀ d, (kids Y n J).length ≤ (kids Y n (J + d)).length := by
  intro d
  induction d with
  | zero => exact Nat.le_refl _
  | succ d ih => rw [← Nat.add_assoc]; simp only [kids, List.length_append]; omega
theorem kid_le (Y : Nat → List Tk) (n : Nd) : ∀ J K, K < J → (Y (kd n K)).length ≤ (kids Y n J).length := by
  intro J
  induction J with
  | zero => intro K h; omega
  | succ J ih =>
    intro K h
    simp only [kids, List.length_append]
    by_cases e : K = J
    · subst e; omega
    · have := ih K (by omega); omega
theorem all_yield {l : List Nd} {a : Option Addr} {m cap : Nat} (ht : rt.treeOk l = true) (hm : m = l.length) (hmx : m ≤ 1048576) : ∀ (f i : Nat), i < f → i < l.length → rt.isExpr (l.getD i default).k = true → CallY l a m cap i (yl l f i) := by
  intro f
  induction f with
  | zero => intro i hi; omega
  | succ f ih =>
    intro i hi hl hk
    obtain ⟨n, hn⟩ : ∃ n, l.getD i default = n := ⟨_, rfl⟩
    rw [hn] at hk
    have g := et.Good.at ht hl hn hk
    have h3200 : (yl l (f + 1) i).length ≤ 3200 := by
      rw [← keep_un (enc := mis) ht (f + 1) i top hi hl (by rw [hn]; exact hk)]
      have h1 := keep_len (un mis l (f + 1) i top)
      have h2 := un_len (enc := mis) ht (f + 1) i top hi hl (by rw [hn]; exact hk)
      have h3 := (nd.shape_yes (tree_parts ht).1).2.1
      have h4 : sz l i ≤ i + 1 := by unfold sz; omega
      omega
    rw [yl_succ, hn] at h3200 ⊢
    have hle : (pre n).length + (kids (yl l f) n n.kids.length).length ≤ 3200 := by
      unfold yn at h3200
      simp only [List.length_append] at h3200
      omega
    refine yield_step i n hm hmx (by omega) hn g (fun J hJ => ?_) (fun K hK => ?_) (fun K hK => ?_)
    · have h := kids_split (yl l f) n J (n.kids.length - J)
      rw [show J + (n.kids.length - J) = n.kids.length by omega] at h
      rw [List.length_append]
      omega
    · have := kid_le (yl l f) n _ K hK
      omega
    · obtain ⟨k1, k2, k3⟩ := g.kids K hK
      exact ih (kd n K) (by omega) (by omega) k3
/-- What both sides answer. -/
theorem yield_eq {l : List Nd} (hx : rt.exprOk l = true) : keepL (tw.etoks l top) = yl l l.length (l.length - 1) := by
  obtain ⟨ht, h0, hlast⟩ := tw.expr_parts hx
  unfold tw.etoks
  rw [if_pos ⟨hx, top_ok⟩]
  exact keep_ex ht (by omega) (by omega) hlast

set_option maxHeartbeats 3200000 in
theorem spec_yield (l : List Nd) (a : Option Addr) (cap : Nat) (w : World) (hn : l.length ≤ 1048576) (hk : ∀ t ∈ l, t.kids.length ≤ 1048576) (hs : ∀ t ∈ l, t.s.size ≤ 1048576 ∧ t.t.size ≤ 1048576) (hc : nd.Lies w.heap.size w a l) :
    Calls Tryz.prog 52 #[.slice a l.length cap] w (Out (keepL (tw.etoks l top)) w) := by
  have HC := Lib.hid hc
  have HEX := Lib.hid (rt.spec_expr l a cap w hn hk hs hc)
  cases hx : rt.exprOk l
  · have HE := Lib.hid (show keepL (tw.etoks l top) = [] by unfold tw.etoks; rw [if_neg (by simp [hx])]; rfl)
    rw [hx] at HEX
    clear hx hc hk hs
    go_enter Tryz.func52, Tryz.ntmps52
    go_wp2_with fail
    refine HEX.out.mono ?_
    rintro e w1 ⟨rfl, b1⟩
    have B1 := Lib.hid b1
    clear b1
    go_wp2
    go_ret
    refine ⟨_, rfl, B1.out.alloc B1.out.size _, ?_⟩
    rw [HE.out]
    exact (lit0 w1.heap.size w1 (Nat.le_refl _) 35 rfl).up B1.out.size
  · obtain ⟨ht, h0, hlast⟩ := tw.expr_parts hx
    have HY := Lib.hid (yield_eq hx)
    have HALL := Lib.hid (all_yield (a := a) (cap := cap) ht rfl hn l.length (l.length - 1) (by omega) (by omega) hlast)
    rw [hx] at HEX
    obtain ⟨N, hN⟩ : ∃ N, l.length = N := ⟨_, rfl⟩
    have HNN := Lib.hid hN
    rw [hN] at HALL HEX hn h0 ⊢
    have h1 : (1 : Int) ≤ (N : Int) := by omega
    have HI := Lib.hid (show ((N - 1 : Nat) : Int) = (N : Int) - 1 by omega)
    clear hx hc hk hs ht hlast hN
    go_enter Tryz.func52, Tryz.ntmps52
    go_wp2_with fail
    refine HEX.out.mono ?_
    rintro e w1 ⟨rfl, b1⟩
    have B1 := Lib.hid b1
    clear b1
    go_wp2_with fail
    have HA := Lib.hid (HALL.out w1 (HC.out.on B1.out (Nat.le_refl _)))
    rw [HI.out] at HA
    refine HA.out.mono ?_
    rintro e w2 ⟨v2, rfl, b2, o2⟩
    have B2 := Lib.hid (B1.out.trans (b2.mono B1.out.size))
    have O2 := Lib.hid (o2.up B1.out.size)
    clear b2 o2
    go_wp2
    go_ret
    refine ⟨v2, rfl, B2.out, ?_⟩
    rw [HY.out, HNN.out]
    exact O2.out
end Go.Proofs.YtiilpnoaocfjgaaGreatDoor.yd
