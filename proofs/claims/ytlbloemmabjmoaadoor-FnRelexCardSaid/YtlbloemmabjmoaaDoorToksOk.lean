/-
  TokensOk of both sides: whether tokens could be a lexer's result ('okFrom', 'tokensOk'): contracts.
-/
import Derived.Test.YtlbloemmabjmoaaDoorTk
import Derived.Test.YtlbloemmabjmoaaDoorTok
import Derived.Test.YtlbloemmabjmoaaDoorOperand
import Derived.Test.YtlbloemmabjmoaaDoorLexWord
namespace Go.Proofs.YtlbloemmabjmoaaDoor.tksok
open Go.ChangeShapes Go.WideShapes Go.ChangeAt Go.RowKit
open tk
open lex (eqI neI)
open spell (Held)
set_option linter.unusedVariables false

/-- May a token of this kind follow one of that? -/
def follow (p k : Int) : Bool :=
  if p = 7 ∧ ¬ k = 32 then false
  else if p = 2 ∧ ¬ k = 1 then false
  else if k = 5 then !operand.ends p
  else if k = 58 ∨ k = 41 then operand.ends p
  else true
/-- From a token on, the one before being of a kind. -/
def okFrom (p : Int) : List Tk → Bool
  | [] => p != 7
  | t :: l => tok.tokOk t.k t.s && (follow p t.k && okFrom t.k l)
def tokensOk (l : List Tk) : Bool := decide (l.length ≤ 3000) && okFrom 0 l

theorem impl_follow (p k : Int) (w : World) : Calls Tryd.prog 40 #[.int .i64 p, .int .i64 k] w fun e w' => e = .returned (.bool (follow p k)) ∧ w = w' := by
  by_cases h1 : p = 7
  · obtain ⟨a1, a2⟩ := eqI h1
    by_cases h2 : k = 32
    · subst h1 h2
      go_enter Tryd.func40, Tryd.ntmps40
      go_wp2
      go_ret
      exact ⟨rfl, rfl⟩
    · have HE := Lib.hid (show follow p k = false by unfold follow; rw [if_pos ⟨h1, h2⟩])
      obtain ⟨b1, b2⟩ := neI h2
      clear h1 h2
      go_enter Tryd.func40, Tryd.ntmps40
      go_wp2
      go_ret
      exact ⟨by rw [HE.out]; rfl, rfl⟩
  obtain ⟨a1, a2⟩ := neI h1
  by_cases h3 : p = 2
  · obtain ⟨a3, a4⟩ := eqI h3
    by_cases h4 : k = 1
    · subst h3 h4
      go_enter Tryd.func40, Tryd.ntmps40
      go_wp2
      go_ret
      exact ⟨rfl, rfl⟩
    · have HE := Lib.hid (show follow p k = false by unfold follow; rw [if_neg (fun h => h1 h.1), if_pos ⟨h3, h4⟩])
      obtain ⟨b1, b2⟩ := neI h4
      clear h1 h3 h4
      go_enter Tryd.func40, Tryd.ntmps40
      go_wp2
      go_ret
      exact ⟨by rw [HE.out]; rfl, rfl⟩
  obtain ⟨a3, a4⟩ := neI h3
  by_cases h5 : k = 5
  · have HE := Lib.hid (show follow p k = !operand.ends p by unfold follow; rw [if_neg (fun h => h1 h.1), if_neg (fun h => h3 h.1), if_pos h5])
    obtain ⟨a5, a6⟩ := eqI h5
    clear h1 h3 h5
    go_enter Tryd.func40, Tryd.ntmps40
    go_wp2_with (go_at_call 72; refine (operand.impl_ends _ _).mono ?_; rintro e w' ⟨rfl, rfl⟩)
    go_ret
    exact ⟨by rw [HE.out]; rfl, rfl⟩
  obtain ⟨a5, a6⟩ := neI h5
  by_cases h6 : k = 58
  · have HE := Lib.hid (show follow p k = operand.ends p by unfold follow; rw [if_neg (fun h => h1 h.1), if_neg (fun h => h3 h.1), if_neg h5, if_pos (.inl h6)])
    obtain ⟨a7, a8⟩ := eqI h6
    clear h1 h3 h5 h6
    go_enter Tryd.func40, Tryd.ntmps40
    go_wp2_with (go_at_call 72; refine (operand.impl_ends _ _).mono ?_; rintro e w' ⟨rfl, rfl⟩)
    go_ret
    exact ⟨by rw [HE.out]; rfl, rfl⟩
  obtain ⟨a7, a8⟩ := neI h6
  by_cases h7 : k = 41
  · have HE := Lib.hid (show follow p k = operand.ends p by unfold follow; rw [if_neg (fun h => h1 h.1), if_neg (fun h => h3 h.1), if_neg h5, if_pos (.inr h7)])
    obtain ⟨b7, b8⟩ := eqI h7
    clear h1 h3 h5 h6 h7
    go_enter Tryd.func40, Tryd.ntmps40
    go_wp2_with (go_at_call 72; refine (operand.impl_ends _ _).mono ?_; rintro e w' ⟨rfl, rfl⟩)
    go_ret
    exact ⟨by rw [HE.out]; rfl, rfl⟩
  have HE := Lib.hid (show follow p k = true by unfold follow; rw [if_neg (fun h => h1 h.1), if_neg (fun h => h3 h.1), if_neg h5, if_neg (fun h => h.elim h6 h7)])
  obtain ⟨b7, b8⟩ := neI h7
  clear h1 h3 h5 h6 h7
  go_enter Tryd.func40, Tryd.ntmps40
  go_wp2
  go_ret
  exact ⟨by rw [HE.out]; rfl, rfl⟩

theorem ok_cons {l : List Tk} {I : Nat} (h : I < l.length) (p : Int) : okFrom p (l.drop I) = (tok.tokOk l[I].k l[I].s && (follow p l[I].k && okFrom l[I].k (l.drop (I + 1)))) := by
  rw [List.drop_eq_getElem_cons h]
  rfl
def RelOk (B : Nat) (W : World) (l : List Tk) (p i : Value) (wr : World) : Prop :=
  ∃ (I : Nat) (P : Int), I ≤ l.length ∧ i = .int .i64 (I : Int) ∧ p = .int .i64 P ∧ Below B W wr ∧ okFrom P (l.drop I) = okFrom 0 l

set_option maxHeartbeats 3200000 in
theorem impl_toksOk (l : List Tk) (a : Option Addr) (cap : Nat) (w : World) (hn : l.length ≤ 1048576) (hc : Lies w.heap.size w a l) (hm : ∀ t ∈ l, t.s.size ≤ 1048576) (hh : Held w) :
    Calls Tryd.prog 17 #[.slice a l.length cap] w fun e w' => e = .returned (.bool (tokensOk l)) ∧ Below w.heap.size w w' := by
  have HC := Lib.hid hc
  have HM := Lib.hid hm
  have HH := Lib.hid hh
  clear hc hm hh
  obtain ⟨n, hln⟩ : ∃ n, n = l.length := ⟨_, rfl⟩
  have HLN := Lib.hid hln
  rw [← hln]
  rw [← hln] at hn
  by_cases hbig : 3000 < n
  · have HE := Lib.hid (show tokensOk l = false by unfold tokensOk; rw [decide_eq_false (by omega)]; rfl)
    have hb2 : (3000 : Int) < (n : Int) := by omega
    clear hln hbig
    go_enter Tryd.func17, Tryd.ntmps17
    go_wp2
    go_ret
    exact ⟨by rw [HE.out]; rfl, Below.refl _ _⟩
  have HT := Lib.hid (show tokensOk l = okFrom 0 l by unfold tokensOk; rw [decide_eq_true (by omega)]; rfl)
  have hb2 : ¬ (3000 : Int) < (n : Int) := by omega
  clear hln hbig
  go_enter Tryd.func17, Tryd.ntmps17
  go_wp2
  go_loopw [3, 11] (fun p i wr => RelOk w.heap.size w l p i wr) (fun _ i _ => n - (intOf i).toNat)
  case atStart => exact ⟨0, 0, by omega, rfl, rfl, Below.refl _ _, rfl⟩
  case round =>
    obtain ⟨I, P, hI, rfl, rfl, hbel, hok⟩ := hrel
    have HB := Lib.hid hbel
    have HO := Lib.hid hok
    rw [← HLN.out] at hI
    clear hbel hok
    by_cases hlt : I < n
    · have hl1 : I < l.length := by have := HLN.out; omega
      have HCO := Lib.hid (ok_cons hl1 P)
      obtain ⟨b, o, rfl, hb, hcell⟩ := lies_at HC.out hl1
      obtain ⟨c0, c1, c2⟩ := (hcell I hl1).keep HB.out hb
      have hts := HM.out l[I] (List.getElem_mem hl1)
      obtain ⟨t, ht⟩ : ∃ t, t = l[I] := ⟨_, rfl⟩
      rw [← ht] at HCO c0 c1 c2 hts
      have hi1 : (I : Int) < (n : Int) := by omega
      have hi0 : (0 : Int) ≤ (I : Int) := by omega
      have HHr := Lib.hid (HH.out.below HB.out)
      clear ht hcell
      have HB0 := Lib.hid (HB.out.alloc HB.out.size (.cells #[.int .i64 t.k, .string t.s, .int .i64 t.a] 35))
      have HX0 := Lib.hid (lex.B3.new wr t.k t.a t.s)
      cases hok1 : tok.tokOk t.k t.s
      · have HE := Lib.hid (show tokensOk l = false by rw [HT.out, ← HO.out, HCO.out, hok1]; rfl)
        go_wp2_with fail
        refine (tok.impl_tok t.k t.a t.s _ hts (HHr.out.below ((Below.refl _ _).alloc (Nat.le_refl _) _))).mono ?_
        rintro e w2 ⟨he, b2⟩
        rw [hok1] at he
        subst he
        have HB2 := Lib.hid (HB0.out.trans (b2.mono HB0.out.size))
        clear b2
        go_wp2
        go_ret
        exact ⟨by rw [HE.out]; rfl, HB2.out⟩
      · cases hf : follow P t.k
        · have HE := Lib.hid (show tokensOk l = false by rw [HT.out, ← HO.out, HCO.out, hok1, hf]; rfl)
          go_wp2_with fail
          refine (tok.impl_tok t.k t.a t.s _ hts (HHr.out.below ((Below.refl _ _).alloc (Nat.le_refl _) _))).mono ?_
          rintro e w2 ⟨he, b2⟩
          rw [hok1] at he
          subst he
          have HB2 := Lib.hid (HB0.out.trans (b2.mono HB0.out.size))
          obtain ⟨x0, x1, x2⟩ := (HX0.out.keep b2 HX0.out.lt).c
          clear b2
          go_wp2_with (go_at_call 40; refine (impl_follow _ _ _).mono ?_; rintro e w' ⟨he, rfl⟩; rw [hf] at he; subst he)
          go_ret
          exact ⟨by rw [HE.out]; rfl, HB2.out⟩
        · have HE := Lib.hid (show okFrom t.k (l.drop (I + 1)) = okFrom 0 l by rw [← HO.out, HCO.out, hok1, hf]; rfl)
          go_wp2_with fail
          refine (tok.impl_tok t.k t.a t.s _ hts (HHr.out.below ((Below.refl _ _).alloc (Nat.le_refl _) _))).mono ?_
          rintro e w2 ⟨he, b2⟩
          rw [hok1] at he
          subst he
          have HB2 := Lib.hid (HB0.out.trans (b2.mono HB0.out.size))
          obtain ⟨x0, x1, x2⟩ := (HX0.out.keep b2 HX0.out.lt).c
          clear b2
          go_wp2_with (go_at_call 40; refine (impl_follow _ _ _).mono ?_; rintro e w' ⟨he, rfl⟩; rw [hf] at he; subst he)
          go_roundw
          case rel => exact ⟨I + 1, t.k, by have := HLN.out; omega, by go_num, rfl, HB2.out, HE.out⟩
          case measure => simp [intOf]; omega
    · have HE := Lib.hid (show tokensOk l = (P != 7) by
        rw [HT.out, ← HO.out, List.drop_eq_nil_of_le (by have := HLN.out; omega)]; rfl)
      go_wp2
      go_ret
      exact ⟨by rw [HE.out]; rfl, HB.out⟩
end Go.Proofs.YtlbloemmabjmoaaDoor.tksok
