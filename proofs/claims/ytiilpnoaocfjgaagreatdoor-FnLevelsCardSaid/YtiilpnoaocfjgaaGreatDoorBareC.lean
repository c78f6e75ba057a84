/-
  Bare over tokens in memory: contracts of both sides.
-/
import Derived.Test.YtiilpnoaocfjgaaGreatDoorTk
namespace Go.Proofs.YtiilpnoaocfjgaaGreatDoor.pb
open Go.ChangeShapes Go.WideShapes Go.ChangeAt Go.RowKit
open tk
set_option linter.unusedVariables false

def clB (k : Int) : Bool := k == 33 || k == 35 || k == 31
def opB (k : Int) : Bool := k == 32 || k == 34 || k == 30
def clN (k : Int) : Int := if clB k = true then 1 else 0
def opN (k : Int) : Int := if opB k = true then 1 else 0
def bareF (q : Int) : List Tk → Int → Bool
  | [], _ => false
  | t :: r, d => if t.k = q ∧ d - clN t.k = 0 then true else bareF q r (d - clN t.k + opN t.k)
theorem bare_end (l : List Tk) (q d : Int) : bareF q (l.drop l.length) d = false := by rw [List.drop_length]; rfl
theorem bare_hit {l : List Tk} {q d : Int} {I : Nat} (h : I < l.length) (h1 : l[I].k = q) (h2 : d - clN l[I].k = 0) : bareF q (l.drop I) d = true := by
  rw [List.drop_eq_getElem_cons h]
  unfold bareF
  rw [if_pos ⟨h1, h2⟩]
theorem bare_on {l : List Tk} {q d : Int} {I : Nat} (h : I < l.length) (h1 : ¬ (l[I].k = q ∧ d - clN l[I].k = 0)) : bareF q (l.drop I) d = bareF q (l.drop (I + 1)) (d - clN l[I].k + opN l[I].k) := by
  rw [List.drop_eq_getElem_cons h]
  conv => lhs; unfold bareF
  rw [if_neg h1]
theorem cl_01 (k : Int) : clN k = 0 ∨ clN k = 1 := by unfold clN; split <;> simp
theorem op_01 (k : Int) : opN k = 0 ∨ opN k = 1 := by unfold opN; split <;> simp
theorem both {k : Int} (h : opB k = true) : clB k = false := by
  simp only [opB, Bool.or_eq_true, beq_iff_eq] at h
  rcases h with (h | h) | h <;> subst h <;> rfl
def nest (k : Int) : Int := if opB k = true then 1 else if clB k = true then -1 else 0
theorem nest_3 (k : Int) : nest k = 1 ∨ nest k = -1 ∨ nest k = 0 := by
  unfold nest
  split
  · exact .inl rfl
  · split
    · exact .inr (.inl rfl)
    · exact .inr (.inr rfl)
theorem nest_cl (k : Int) : min (nest k) 0 = - clN k := by
  unfold nest clN
  cases h : opB k
  · cases clB k <;> rfl
  · rw [both h]; rfl
theorem nest_op (k : Int) : max (nest k) 0 = opN k := by
  unfold nest opN
  cases h : opB k
  · cases clB k <;> rfl
  · rfl

theorem spec_close (k : Int) (w : World) : Calls Tryz.prog 88 #[.int .i64 k] w fun e w' => e = .returned (.bool (clB k)) ∧ w = w' := by
  go_enter Tryz.func88, Tryz.ntmps88
  go_wp2
  all_goals
    go_ret
    exact ⟨congrArg (fun b => Ending.returned (Value.bool b)) (by simp_all [clB]), rfl⟩
theorem spec_open (k : Int) (w : World) : Calls Tryz.prog 89 #[.int .i64 k] w fun e w' => e = .returned (.bool (opB k)) ∧ w = w' := by
  go_enter Tryz.func89, Tryz.ntmps89
  go_wp2
  all_goals
    go_ret
    exact ⟨congrArg (fun b => Ending.returned (Value.bool b)) (by simp_all [opB]), rfl⟩
theorem impl_nest (k : Int) (w : World) : Calls Tryz.prog 90 #[.int .i64 k] w fun e w' => e = .returned (.int .i64 (nest k)) ∧ w = w' := by
  go_enter Tryz.func90, Tryz.ntmps90
  go_wp2
  all_goals
    go_ret
    exact ⟨congrArg (fun b => Ending.returned (Value.int .i64 b)) (by simp_all [nest, opB, clB]), rfl⟩

def RelBr (w : World) (l : List Tk) (q : Int) (d i : Value) (wr : World) : Prop :=
  ∃ (I : Nat) (D : Int), I ≤ l.length ∧ i = .int .i64 (I : Int) ∧ d = .int .i64 D ∧ -(I : Int) ≤ D ∧ D ≤ (I : Int) ∧ bareF q (l.drop I) D = bareF q l 0 ∧ Below w.heap.size w wr

set_option maxHeartbeats 1600000 in
theorem spec_bare (l : List Tk) (a : Option Addr) (cap : Nat) (q : Int) (w : World) (hn : l.length ≤ 1048576) (hc : Lies w.heap.size w a l) :
    Calls Tryz.prog 137 #[.slice a l.length cap, .int .i64 q] w fun e w' => e = .returned (.bool (bareF q l 0)) ∧ Below w.heap.size w w' := by
  have HC := Lib.hid hc
  clear hc
  obtain ⟨n, hln⟩ : ∃ n, n = l.length := ⟨_, rfl⟩
  have HLN := Lib.hid hln
  rw [← hln]
  rw [← hln] at hn
  clear hln
  go_enter Tryz.func137, Tryz.ntmps137
  go_wp2
  go_loopw [5, 6] (fun d i wr => RelBr w l q d i wr) (fun _ i _ => n - (intOf i).toNat)
  case atStart => exact ⟨0, 0, by omega, rfl, rfl, by omega, by omega, rfl, Below.refl _ _⟩
  case round =>
    obtain ⟨I, D, hI, rfl, rfl, hD1, hD2, hbr, hbel⟩ := hrel
    have HB := Lib.hid hbel
    have HBR := Lib.hid hbr
    rw [← HLN.out] at hI
    clear hbel hbr
    by_cases hlt : I < n
    · have hltl : I < l.length := by have := HLN.out; omega
      obtain ⟨b, o, rfl, hb, hcell⟩ := lies_at HC.out hltl
      obtain ⟨c0, c1, c2⟩ := (hcell I hltl).keep HB.out hb
      have HIT := Lib.hid (fun h1 h2 => bare_hit (q := q) (d := D) hltl h1 h2)
      have HON := Lib.hid (fun h1 => bare_on (q := q) (d := D) hltl h1)
      obtain ⟨t, ht⟩ : ∃ t, t = l[I] := ⟨_, rfl⟩
      rw [← ht] at c0 c1 c2 HIT HON
      clear hcell ht
      have hi1 : (I : Int) < (n : Int) := by omega
      have ho := op_01 t.k
      have HREL := Lib.hid (show ∀ X : Int, X = D - clN t.k + opN t.k → ¬ (t.k = q ∧ D - clN t.k = 0) → ∀ wr', Below w.heap.size w wr' → RelBr w l q (.int .i64 X) (.int .i64 ((I : Int) + 1)) wr' from fun X hX h wr' hb' => ⟨I + 1, X, by have := HLN.out; omega, by go_num, rfl, by have := cl_01 t.k; have := op_01 t.k; omega, by have := cl_01 t.k; have := op_01 t.k; omega, by rw [hX, ← HON.out h]; exact HBR.out, hb'⟩)
      have HO := Lib.hid (show opN t.k = if opB t.k = true then 1 else 0 from rfl)
      have HCN := Lib.hid (show clN t.k = if clB t.k = true then 1 else 0 from rfl)
      obtain ⟨C, hC⟩ : ∃ C, clB t.k = C := ⟨_, rfl⟩
      obtain ⟨O, hO⟩ : ∃ O, opB t.k = O := ⟨_, rfl⟩
      rw [hC] at HCN
      rw [hO] at HO
      have HCC := Lib.hid hC
      have HOO := Lib.hid hO
      clear ho hC hO
      by_cases hq : t.k = q
      · obtain ⟨q1, q2⟩ := eq_facts hq
        by_cases hz : D - clN t.k = 0
        · have HE := Lib.hid (HIT.out hq hz)
          rw [HBR.out] at HE
          have HZ := Lib.hid hz
          clear hq hz
          cases C
          · have e0 : D = 0 := by have := HZ.out; rw [HCN.out] at this; simp at this; exact this
            subst e0
            go_wp2_with (first | (go_at_call 88; refine (spec_close _ _).mono ?_; rw [HCC.out]; rintro e w' ⟨rfl, rfl⟩))
            go_ret
            exact ⟨by rw [HE.out]; rfl, HB.out⟩
          · have e0 : D = 1 := by have := HZ.out; rw [HCN.out] at this; simp at this; omega
            subst e0
            go_wp2_with (first | (go_at_call 88; refine (spec_close _ _).mono ?_; rw [HCC.out]; rintro e w' ⟨rfl, rfl⟩))
            go_ret
            exact ⟨by rw [HE.out]; rfl, HB.out⟩
        · have HR := Lib.hid (fun X hX => HREL.out X hX (fun e => hz e.2) _ HB.out)
          rw [HCN.out, HO.out] at HR
          rw [HCN.out] at hz
          clear hq
          cases C
          all_goals
            simp at hz
            first | (have z1 : (D == 0) = false := by simp [hz]) | skip
            first | (have z2 : (D - 1 == 0) = false := by rw [beq_eq_false_iff_ne]; exact hz) | skip
            cases O
            all_goals
              have HR2 := Lib.hid (HR.out _ rfl)
              simp at HR2
              go_wp2_with (first | (go_at_call 88; refine (spec_close _ _).mono ?_; rw [HCC.out]; rintro e w' ⟨rfl, rfl⟩) | (go_at_call 89; refine (spec_open _ _).mono ?_; rw [HOO.out]; rintro e w' ⟨rfl, rfl⟩))
              go_roundw
              case rel => first | exact HR2.out | (have := HR2.out; simpa using this)
              case measure => simp [intOf]; omega
      · obtain ⟨q1, q2⟩ := ne_facts hq
        have HR := Lib.hid (fun X hX => HREL.out X hX (fun e => hq e.1) _ HB.out)
        rw [HCN.out, HO.out] at HR
        clear hq
        cases C
        all_goals
          cases O
          all_goals
            have HR2 := Lib.hid (HR.out _ rfl)
            simp at HR2
            go_wp2_with (first | (go_at_call 88; refine (spec_close _ _).mono ?_; rw [HCC.out]; rintro e w' ⟨rfl, rfl⟩) | (go_at_call 89; refine (spec_open _ _).mono ?_; rw [HOO.out]; rintro e w' ⟨rfl, rfl⟩))
            go_roundw
            case rel => first | exact HR2.out | (have := HR2.out; simpa using this)
            case measure => simp [intOf]; omega
    · obtain rfl : I = n := by omega
      have HE := Lib.hid (show bareF q l 0 = false by rw [← HBR.out, HLN.out]; exact bare_end _ _ _)
      go_wp2
      go_ret
      exact ⟨by rw [HE.out]; rfl, HB.out⟩

set_option maxHeartbeats 1600000 in
theorem impl_bare (l : List Tk) (a : Option Addr) (cap : Nat) (q : Int) (w : World) (hn : l.length ≤ 1048576) (hc : Lies w.heap.size w a l) :
    Calls Tryz.prog 33 #[.slice a l.length cap, .int .i64 q] w fun e w' => e = .returned (.bool (bareF q l 0)) ∧ Below w.heap.size w w' := by
  have HC := Lib.hid hc
  clear hc
  obtain ⟨n, hln⟩ : ∃ n, n = l.length := ⟨_, rfl⟩
  have HLN := Lib.hid hln
  rw [← hln]
  rw [← hln] at hn
  clear hln
  go_enter Tryz.func33, Tryz.ntmps33
  go_wp2
  go_loopw [5, 11] (fun d i wr => RelBr w l q d i wr) (fun _ i _ => n - (intOf i).toNat)
  case atStart => exact ⟨0, 0, by omega, rfl, rfl, by omega, by omega, rfl, Below.refl _ _⟩
  case round =>
    obtain ⟨I, D, hI, rfl, rfl, hD1, hD2, hbr, hbel⟩ := hrel
    have HB := Lib.hid hbel
    have HBR := Lib.hid hbr
    rw [← HLN.out] at hI
    clear hbel hbr
    by_cases hlt : I < n
    · have hltl : I < l.length := by have := HLN.out; omega
      obtain ⟨b, o, rfl, hb, hcell⟩ := lies_at HC.out hltl
      obtain ⟨c0, c1, c2⟩ := (hcell I hltl).keep HB.out hb
      have HIT := Lib.hid (fun h1 h2 => bare_hit (q := q) (d := D) hltl h1 h2)
      have HON := Lib.hid (fun h1 => bare_on (q := q) (d := D) hltl h1)
      obtain ⟨t, ht⟩ : ∃ t, t = l[I] := ⟨_, rfl⟩
      rw [← ht] at c0 c1 c2 HIT HON
      clear hcell ht
      have hi1 : (I : Int) < (n : Int) := by omega
      have HREL := Lib.hid (show ∀ X : Int, X = D - clN t.k + opN t.k → ¬ (t.k = q ∧ D - clN t.k = 0) → ∀ wr', Below w.heap.size w wr' → RelBr w l q (.int .i64 X) (.int .i64 ((I : Int) + 1)) wr' from fun X hX h wr' hb' => ⟨I + 1, X, by have := HLN.out; omega, by go_num, rfl, by have := cl_01 t.k; have := op_01 t.k; omega, by have := cl_01 t.k; have := op_01 t.k; omega, by rw [hX, ← HON.out h]; exact HBR.out, hb'⟩)
      have hcl := nest_cl t.k
      have hop := nest_op t.k
      have h01 := cl_01 t.k
      have h02 := op_01 t.k
      obtain ⟨N, hN⟩ : ∃ N, nest t.k = N := ⟨_, rfl⟩
      obtain ⟨C, hC⟩ : ∃ C, clN t.k = C := ⟨_, rfl⟩
      obtain ⟨O, hO⟩ : ∃ O, opN t.k = O := ⟨_, rfl⟩
      rw [hC] at HREL h01 HIT
      rw [hO] at HREL h02
      rw [hN, hC] at hcl
      rw [hN, hO] at hop
      have HNN := Lib.hid hN
      have HB2 := Lib.hid (show Below w.heap.size w (wr.alloc (.cells #[.int .i64 t.k, .string t.s, .int .i64 t.a] 35)) from HB.out.trans ((Below.refl _ _).alloc HB.out.size _))
      have hN3 := nest_3 t.k
      rw [hN] at hN3
      clear hN hC hO
      obtain ⟨hCO, rfl⟩ | ⟨hCO, rfl⟩ | ⟨hCO, rfl⟩ : ((C = 0 ∧ O = 1) ∧ N = 1) ∨ ((C = 1 ∧ O = 0) ∧ N = -1) ∨ ((C = 0 ∧ O = 0) ∧ N = 0) := by omega
      all_goals
        obtain ⟨rfl, rfl⟩ := hCO
        clear hcl hop h01 h02 hN3
        by_cases hq : t.k = q
        · obtain ⟨q1, q2⟩ := eq_facts hq
          first
          | (by_cases hz : D - 0 = 0
             · have HE := Lib.hid (HIT.out hq hz)
               rw [HBR.out] at HE
               obtain rfl : D = 0 := by omega
               clear hq hz
               go_wp2_with (first | (go_at_call 90; refine (impl_nest _ _).mono ?_; rw [HNN.out]; rintro e w' ⟨rfl, rfl⟩))
               go_ret
               exact ⟨by rw [HE.out]; rfl, HB2.out⟩
             · have HR2 := Lib.hid (HREL.out _ rfl (fun e => hz e.2) _ HB2.out)
               have z1 : (D == 0) = false := by rw [beq_eq_false_iff_ne]; omega
               simp at HR2
               clear hq hz
               go_wp2_with (first | (go_at_call 90; refine (impl_nest _ _).mono ?_; rw [HNN.out]; rintro e w' ⟨rfl, rfl⟩))
               go_roundw
               case rel => first | exact HR2.out | (have := HR2.out; simpa using this)
               case measure => simp [intOf]; omega)
          | (by_cases hz : D - 1 = 0
             · have HE := Lib.hid (HIT.out hq hz)
               rw [HBR.out] at HE
               obtain rfl : D = 1 := by omega
               clear hq hz
               go_wp2_with (first | (go_at_call 90; refine (impl_nest _ _).mono ?_; rw [HNN.out]; rintro e w' ⟨rfl, rfl⟩))
               go_ret
               exact ⟨by rw [HE.out]; rfl, HB2.out⟩
             · have HR2 := Lib.hid (HREL.out _ rfl (fun e => hz e.2) _ HB2.out)
               have z1 : (D - 1 == 0) = false := by rw [beq_eq_false_iff_ne]; omega
               have z2 : (D + -1 == 0) = false := by rw [beq_eq_false_iff_ne]; omega
               simp at HR2
               clear hq hz
               go_wp2_with (first | (go_at_call 90; refine (impl_nest _ _).mono ?_; rw [HNN.out]; rintro e w' ⟨rfl, rfl⟩))
               go_roundw
               case rel => first | exact HR2.out | (have := HR2.out; simpa using this)
               case measure => simp [intOf]; omega)
        · obtain ⟨q1, q2⟩ := ne_facts hq
          have HR2 := Lib.hid (HREL.out _ rfl (fun e => hq e.1) _ HB2.out)
          simp at HR2
          clear hq
          go_wp2_with (first | (go_at_call 90; refine (impl_nest _ _).mono ?_; rw [HNN.out]; rintro e w' ⟨rfl, rfl⟩))
          go_roundw
          case rel => first | exact HR2.out | (have := HR2.out; simpa using this)
          case measure => simp [intOf]; omega
    · obtain rfl : I = n := by omega
      have HE := Lib.hid (show bareF q l 0 = false by rw [← HBR.out, HLN.out]; exact bare_end _ _ _)
      go_wp2
      go_ret
      exact ⟨by rw [HE.out]; rfl, HB.out⟩
end Go.Proofs.YtiilpnoaocfjgaaGreatDoor.pb
