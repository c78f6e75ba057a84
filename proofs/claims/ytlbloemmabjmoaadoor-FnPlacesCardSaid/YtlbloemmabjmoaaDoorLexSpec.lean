/-
  The model's lexer: spec.Lex answers as impl.Lex does: a contract.
-/
import Derived.Test.YtlbloemmabjmoaaDoorLexTop
import Derived.Test.YtlbloemmabjmoaaDoorLexNext
namespace Go.Proofs.YtlbloemmabjmoaaDoor.lex
open Go.ChangeShapes Go.WideShapes Go.ChangeAt Go.RowKit
open tk scan own
set_option linter.unusedVariables false

theorem Own.lit {B : Nat} {w : World} (hB : B ≤ w.heap.size) : Own B (.slice (some ⟨w.heap.size, 0, none⟩) 0 0) [] (w.alloc (.cells #[] 35)) :=
  World.ownsRow_lit w #[] 0 hB (by unfold maxLen; omega) rfl
theorem FBox.lt {g : Nat} {w : World} (h : FBox g w) : g < w.heap.size := by
  rcases Nat.lt_or_ge g w.heap.size with h' | h'
  · exact h'
  · unfold FBox at h; rw [Array.getElem?_eq_none h'] at h; cases h
theorem FBox.keep {B g : Nat} {w w' : World} (h : FBox g w) (hb : Below B w w') (hg : g < B) : FBox g w' := (hb.block g hg).trans h

def RelLexS (s : ByteArray) (W : World) (v p a : Value) (wr : World) : Prop :=
  ∃ (d : List Tk) (P : Int) (A : Nat), Own (W.heap.size + 1) v d wr ∧ p = .int .i64 P ∧ a = .int .i64 (A : Int) ∧ A ≤ s.size ∧ push d (lexZ s A P) = lexZ s 0 0 ∧ d.length ≤ A ∧ Below W.heap.size W wr ∧ FBox W.heap.size wr

set_option maxHeartbeats 3200000 in
theorem spec_lex (s : ByteArray) (w : World) (hs : s.size ≤ 1048576) :
    Calls Tryd.prog 19 #[.string s] w (LexOut s w) := by
  have HF0 := Lib.hid ((show FBox w.heap.size (w.alloc (.cells #[.int .i64 0, .int .i64 0] 28)) from heap_alloc_new w _).keep ((Below.refl (w.heap.size + 1) _).alloc (by simp) (.cells #[] 35)) (Nat.lt_succ_self _))
  have HB0 := Lib.hid (((Below.refl w.heap.size w).alloc (Nat.le_refl _) (.cells #[.int .i64 0, .int .i64 0] 28)).alloc (by simp) (.cells #[] 35))
  have HO0 := Lib.hid (show Own (w.heap.size + 1) (.slice (some ⟨w.heap.size + 1, 0, none⟩) 0 0) [] ((w.alloc (.cells #[.int .i64 0, .int .i64 0] 28)).alloc (.cells #[] 35)) by
    have := Own.lit (B := w.heap.size + 1) (w := w.alloc (.cells #[.int .i64 0, .int .i64 0] 28)) (by simp)
    rwa [show (w.alloc (.cells #[.int .i64 0, .int .i64 0] 28)).heap.size = w.heap.size + 1 by simp] at this)
  by_cases hbig : 3000 < s.size
  · have HR := Lib.hid (lexF_big hbig)
    go_enter Tryd.func19, Tryd.ntmps19
    go_wp2
    refine bodyPost_ret (v := .tuple #[.slice (some ⟨w.heap.size + 1, 0, none⟩) 0 0, .agg #[.int .i64 1, .int .i64 0]]) (by simp [results, Tryd.results19, go_sem]) rfl ?_
    have hb : ∀ x y, Below w.heap.size w ((w.alloc x).alloc y) := fun x y => ((Below.refl _ _).alloc (Nat.le_refl _) _).alloc (by simp) _
    refine ⟨.slice (some ⟨w.heap.size + 1, 0, none⟩) 0 0, by rw [HR.out], hb _ _, ?_⟩
    rw [HR.out]
    have := Own.lit (B := w.heap.size) (w := w.alloc (.cells #[.int .i64 1, .int .i64 0] 28)) (by simp)
    rwa [show (w.alloc (.cells #[.int .i64 1, .int .i64 0] 28)).heap.size = w.heap.size + 1 by simp] at this
  have hgt : decide (3000 < s.size) = false := by rw [decide_eq_false_iff_not]; exact hbig
  have hs2 : s.size ≤ 3000 := by omega
  have HBIG := Lib.hid hbig
  have HL0 := Lib.hid (push_nil (lexZ s 0 0))
  clear hbig
  go_enter Tryd.func19, Tryd.ntmps19
  go_wp2
  go_loopw [4, 5, 6] (fun v p a wr => RelLexS s w v p a wr) (fun _ _ a _ => s.size - (intOf a).toNat)
  case atStart => exact ⟨[], 0, 0, HO0.out, rfl, rfl, by omega, HL0.out, by simp, HB0.out, HF0.out⟩
  case round =>
    obtain ⟨d, P, A, hown, rfl, rfl, hA, hpush, hdl, hbel, hfb⟩ := hrel
    have HOWN := Lib.hid hown
    have HPUSH := Lib.hid hpush
    have HBEL := Lib.hid hbel
    have HFB := Lib.hid hfb
    have hlt3 := hfb.lt
    clear hown hpush hbel hfb
    by_cases hlt : A < s.size
    · have hz := byte_in hlt
      have hc := s[A].toNat_lt
      have hi1 : (A : Int) < (s.size : Int) := by omega
      cases hb : chars.isBlank (s[A].toNat : Int)
      · by_cases h92 : (s[A].toNat : Int) = 92
        · obtain ⟨q1, -⟩ := eqI h92
          by_cases h10 : byteZ s ((A : Int) + 1) = 10
          · obtain ⟨q2, -⟩ := eqI h10
            have hlt2 := join_lt h10
            have HG := Lib.hid (lex_gap (prev := P) (gap_join hlt (by rw [hz]; exact hb) ⟨by rw [hz]; exact h92, h10⟩))
            clear h92 h10 hz
            go_wp2_with (first | (go_at_call 42; refine (chars.spec_blank _ _).mono ?_; rintro e w' ⟨rfl, rfl⟩) | (go_at_call 43; refine (spec_byte s _ _ hs).mono ?_; rintro e w' ⟨rfl, rfl⟩))
            go_roundw
            case rel => exact ⟨d, P, A + 2, HOWN.out, rfl, by go_num, by omega, by rw [← HG.out]; exact HPUSH.out, by omega, HBEL.out, HFB.out⟩
            case measure => simp [intOf]; omega
          · obtain ⟨q2, -⟩ := neI h10
            have HGA := Lib.hid (gap_stop hlt (by rw [hz]; exact hb) (fun h => h10 h.2))
            have hf := kind_facts s A P hlt
            obtain ⟨K, hK⟩ : ∃ K, K = kindAt s A P := ⟨_, rfl⟩
            rw [← hK] at hf
            have HK := Lib.hid hK
            obtain ⟨a, cap, rfl⟩ := HOWN.out.form
            clear hK h92 h10 hz
            by_cases he : K.2 ≤ (A : Int)
            · have HE := Lib.hid (lexF_fault HBIG.out (show lexZ s 0 0 = .inl A by rw [← HPUSH.out, lex_none (by rw [HGA.out]; exact hlt) (by rw [HGA.out, ← HK.out]; exact he), HGA.out]; rfl))
              have HN := Lib.hid (next_no (s := s) (A := A) (prev := P) (k := K.1) (e := K.2) HK.out.symm he)
              clear hf he
              go_wp2_with (first | (go_at_call 42; refine (chars.spec_blank _ _).mono ?_; rintro e w' ⟨rfl, rfl⟩) | (go_at_call 43; refine (spec_byte s _ _ hs).mono ?_; rintro e w' ⟨rfl, rfl⟩) | (go_at_call 38; refine (operand.spec_ends _ _).mono ?_; rintro e w' ⟨rfl, rfl⟩))
              refine (spec_next s A P _ hs hlt).mono ?_
              rintro e w2 ⟨he, b2⟩
              rw [HN.out] at he
              subst he
              have HB2 := Lib.hid (HBEL.out.trans (b2.mono HBEL.out.size))
              have HF2 := Lib.hid (HFB.out.keep b2 hlt3)
              have hlt4 := HF2.out.lt
              have HB5 := Lib.hid (below_set2 HB2.out (.int .i64 2) (.int .i64 (A : Int)))
              have HP5 := Lib.hid (fbox_put HF2.out (.int .i64 2) (.int .i64 (A : Int)))
              have g0 : w2.frozen? ⟨w.heap.size, 0, none⟩ = false := frozen_of_row _ _ 0 _ _ HF2.out
              have g1 : w2.frozen? ⟨w.heap.size, 1, none⟩ = false := frozen_of_row _ _ 1 _ _ HF2.out
              have e0 : w2.cell? ⟨w.heap.size, 0, none⟩ = some (.int .i64 0) := by rw [cell_of_row _ _ 0 _ _ _ HF2.out]; rfl
              have e1 : w2.cell? ⟨w.heap.size, 1, none⟩ = some (.int .i64 0) := by rw [cell_of_row _ _ 1 _ _ _ HF2.out]; rfl
              clear b2
              go_wp2
              obtain ⟨W5, hW5⟩ : ∃ W5, W5 = (w2.setCell ⟨w.heap.size, 0, none⟩ (.int .i64 2)).setCell ⟨w.heap.size, 1, none⟩ (.int .i64 (A : Int)) := ⟨_, rfl⟩
              have hsz5 : W5.heap.size = w2.heap.size := by rw [hW5]; simp
              rw [← hW5] at HB5 HP5 ⊢
              have hblk : ((W5.alloc (.cells #[.int .i64 0, .string ⟨#[]⟩, .int .i64 (A : Int)] 35)).alloc (.cells #[] 35)).heap[w.heap.size]? = some (.cells #[.int .i64 2, .int .i64 (A : Int)] 28 (0, 0)) := by
                rw [Below.heap_alloc _ _ _ (by simp; omega), Below.heap_alloc _ _ _ (by omega)]
                exact HP5.out
              have d0 : ((W5.alloc (.cells #[.int .i64 0, .string ⟨#[]⟩, .int .i64 (A : Int)] 35)).alloc (.cells #[] 35)).cell? ⟨w.heap.size, 0, none⟩ = some (.int .i64 2) := by rw [cell_of_row _ _ 0 _ _ _ hblk]; rfl
              have d1 : ((W5.alloc (.cells #[.int .i64 0, .string ⟨#[]⟩, .int .i64 (A : Int)] 35)).alloc (.cells #[] 35)).cell? ⟨w.heap.size, 1, none⟩ = some (.int .i64 (A : Int)) := by rw [cell_of_row _ _ 1 _ _ _ hblk]; rfl
              have hown5 : Own w.heap.size (.slice (some ⟨w2.heap.size + 1, 0, none⟩) 0 0) [] ((W5.alloc (.cells #[.int .i64 0, .string ⟨#[]⟩, .int .i64 (A : Int)] 35)).alloc (.cells #[] 35)) := by
                have := Own.lit (B := w.heap.size) (w := W5.alloc (.cells #[.int .i64 0, .string ⟨#[]⟩, .int .i64 (A : Int)] 35)) (by simp; omega)
                rwa [show (W5.alloc (.cells #[.int .i64 0, .string ⟨#[]⟩, .int .i64 (A : Int)] 35)).heap.size = w2.heap.size + 1 by simp; omega] at this
              refine bodyPost_ret (v := .tuple #[.slice (some ⟨w2.heap.size + 1, 0, none⟩) 0 0, .agg #[.int .i64 2, .int .i64 (A : Int)]]) (by simp [results, Tryd.results19, go_sem, d0, d1]) rfl ?_
              exact ⟨.slice (some ⟨w2.heap.size + 1, 0, none⟩) 0 0, by rw [HE.out], (HB5.out.alloc (by omega) _).alloc (by simp; omega) _, by rw [HE.out]; exact hown5⟩
            · obtain ⟨k, e2⟩ := K
              simp only at hf he
              obtain ⟨E, rfl⟩ : ∃ E : Nat, e2 = E := ⟨e2.toNat, by omega⟩
              have hEA : A < E := by omega
              have hEs : E ≤ s.size := by omega
              have HST := Lib.hid (lex_step HGA.out hlt HK.out.symm hEA)
              have hk0 := neI (show ¬ k = 0 by omega)
              obtain ⟨k1, k2⟩ := hk0
              obtain ⟨x, hx⟩ : ∃ x, x = s.extract A E := ⟨_, rfl⟩
              have HXS := Lib.hid (show x.size = E - A by rw [hx, cut_size hEs])
              have hxs : x.size ≤ 3000 := by rw [HXS.out]; omega
              rw [← hx] at HST
              have HN := Lib.hid ((next_yes (s := s) (A := A) (prev := P) HK.out.symm hEA).trans (by rw [← hx]))
              have hdn : ((d.length : Int) == 3000) = false := by rw [beq_eq_false_iff_ne]; omega
              clear hf he hx
              go_wp2_with (first | (go_at_call 42; refine (chars.spec_blank _ _).mono ?_; rintro e w' ⟨rfl, rfl⟩) | (go_at_call 43; refine (spec_byte s _ _ hs).mono ?_; rintro e w' ⟨rfl, rfl⟩) | (go_at_call 38; refine (operand.spec_ends _ _).mono ?_; rintro e w' ⟨rfl, rfl⟩))
              refine (spec_next s A P _ hs hlt).mono ?_
              rintro e w2 ⟨he, b2⟩
              rw [HN.out] at he
              subst he
              have HB2 := Lib.hid (HBEL.out.trans (b2.mono HBEL.out.size))
              have HF2 := Lib.hid (HFB.out.keep b2 hlt3)
              have hlt4 := HF2.out.lt
              have HO2 := Lib.hid (HOWN.out.keep b2 (Nat.le_refl _))
              have HB3 := Lib.hid (show Below (w.heap.size + 1) w2 (w2.alloc (.cells #[.int .i64 k, .string x, .int .i64 (A : Int)] 35)) from (Below.refl _ _).alloc (by omega) _)
              have HO3 := Lib.hid (show Own (w.heap.size + 1) (.slice a d.length cap) d (w2.alloc (.cells #[.int .i64 k, .string x, .int .i64 (A : Int)] 35)) from HO2.out.keep ((Below.refl w2.heap.size w2).alloc (Nat.le_refl _) _) (Nat.le_refl _))
              clear b2
              go_wp2_with (at_builtin; refine wpList_append_tok (w2.alloc (.cells #[.int .i64 k, .string x, .int .i64 (A : Int)] 35)) ⟨k, x, (A : Int)⟩ rfl _ _ rfl (w.heap.size + 1) _ d rfl HO3.out (by simp [Act.eval]) ?n1 ?n2 ?n3)
              case n1 => omega
              case n2 => simp; omega
              case n3 =>
                intro v' w3 hown' b3 g3
                have HO := Lib.hid hown'
                have HB4 := Lib.hid b3
                have HF4 := Lib.hid ((HF2.out.keep ((Below.refl (w.heap.size + 1) w2).alloc (by omega) (.cells #[.int .i64 k, .string x, .int .i64 (A : Int)] 35)) (Nat.lt_succ_self _)).keep b3 (Nat.lt_succ_self _))
                have HBB := Lib.hid ((HB2.out.alloc (by omega) (.cells #[.int .i64 k, .string x, .int .i64 (A : Int)] 35)).trans (b3.mono (Nat.le_succ _)))
                have HT3 := Lib.hid (show B3 w2.heap.size k (A : Int) x w3 from (g3.block w2.heap.size (by simp) HO2.out.not_new).trans (B3.new w2 k (A : Int) x))
                obtain ⟨t0, t1, t2⟩ := HT3.out.c
                clear hown' b3 g3
                go_wp2
                go_roundw
                case rel => exact ⟨d ++ [⟨k, x, (A : Int)⟩], k, E, HO.out, rfl, congrArg (Value.int .i64) (by have := HXS.out; omega), hEs, by rw [push_push, ← HST.out]; exact HPUSH.out, by simp; omega, HBB.out, HF4.out⟩
                case measure => have := HXS.out; simp [intOf]; omega
        · obtain ⟨q1, -⟩ := neI h92
          have HGA := Lib.hid (gap_stop hlt (by rw [hz]; exact hb) (fun h => h92 (by rw [← hz]; exact h.1)))
          have hf := kind_facts s A P hlt
          obtain ⟨K, hK⟩ : ∃ K, K = kindAt s A P := ⟨_, rfl⟩
          rw [← hK] at hf
          have HK := Lib.hid hK
          obtain ⟨a, cap, rfl⟩ := HOWN.out.form
          clear hK h92 hz
          by_cases he : K.2 ≤ (A : Int)
          · have HE := Lib.hid (lexF_fault HBIG.out (show lexZ s 0 0 = .inl A by rw [← HPUSH.out, lex_none (by rw [HGA.out]; exact hlt) (by rw [HGA.out, ← HK.out]; exact he), HGA.out]; rfl))
            have HN := Lib.hid (next_no (s := s) (A := A) (prev := P) (k := K.1) (e := K.2) HK.out.symm he)
            clear hf he
            go_wp2_with (first | (go_at_call 42; refine (chars.spec_blank _ _).mono ?_; rintro e w' ⟨rfl, rfl⟩) | (go_at_call 38; refine (operand.spec_ends _ _).mono ?_; rintro e w' ⟨rfl, rfl⟩))
            refine (spec_next s A P _ hs hlt).mono ?_
            rintro e w2 ⟨he, b2⟩
            rw [HN.out] at he
            subst he
            have HB2 := Lib.hid (HBEL.out.trans (b2.mono HBEL.out.size))
            have HF2 := Lib.hid (HFB.out.keep b2 hlt3)
            have hlt4 := HF2.out.lt
            have HB5 := Lib.hid (below_set2 HB2.out (.int .i64 2) (.int .i64 (A : Int)))
            have HP5 := Lib.hid (fbox_put HF2.out (.int .i64 2) (.int .i64 (A : Int)))
            have g0 : w2.frozen? ⟨w.heap.size, 0, none⟩ = false := frozen_of_row _ _ 0 _ _ HF2.out
            have g1 : w2.frozen? ⟨w.heap.size, 1, none⟩ = false := frozen_of_row _ _ 1 _ _ HF2.out
            have e0 : w2.cell? ⟨w.heap.size, 0, none⟩ = some (.int .i64 0) := by rw [cell_of_row _ _ 0 _ _ _ HF2.out]; rfl
            have e1 : w2.cell? ⟨w.heap.size, 1, none⟩ = some (.int .i64 0) := by rw [cell_of_row _ _ 1 _ _ _ HF2.out]; rfl
            clear b2
            go_wp2
            obtain ⟨W5, hW5⟩ : ∃ W5, W5 = (w2.setCell ⟨w.heap.size, 0, none⟩ (.int .i64 2)).setCell ⟨w.heap.size, 1, none⟩ (.int .i64 (A : Int)) := ⟨_, rfl⟩
            have hsz5 : W5.heap.size = w2.heap.size := by rw [hW5]; simp
            rw [← hW5] at HB5 HP5 ⊢
            have hblk : ((W5.alloc (.cells #[.int .i64 0, .string ⟨#[]⟩, .int .i64 (A : Int)] 35)).alloc (.cells #[] 35)).heap[w.heap.size]? = some (.cells #[.int .i64 2, .int .i64 (A : Int)] 28 (0, 0)) := by
              rw [Below.heap_alloc _ _ _ (by simp; omega), Below.heap_alloc _ _ _ (by omega)]
              exact HP5.out
            have d0 : ((W5.alloc (.cells #[.int .i64 0, .string ⟨#[]⟩, .int .i64 (A : Int)] 35)).alloc (.cells #[] 35)).cell? ⟨w.heap.size, 0, none⟩ = some (.int .i64 2) := by rw [cell_of_row _ _ 0 _ _ _ hblk]; rfl
            have d1 : ((W5.alloc (.cells #[.int .i64 0, .string ⟨#[]⟩, .int .i64 (A : Int)] 35)).alloc (.cells #[] 35)).cell? ⟨w.heap.size, 1, none⟩ = some (.int .i64 (A : Int)) := by rw [cell_of_row _ _ 1 _ _ _ hblk]; rfl
            have hown5 : Own w.heap.size (.slice (some ⟨w2.heap.size + 1, 0, none⟩) 0 0) [] ((W5.alloc (.cells #[.int .i64 0, .string ⟨#[]⟩, .int .i64 (A : Int)] 35)).alloc (.cells #[] 35)) := by
              have := Own.lit (B := w.heap.size) (w := W5.alloc (.cells #[.int .i64 0, .string ⟨#[]⟩, .int .i64 (A : Int)] 35)) (by simp; omega)
              rwa [show (W5.alloc (.cells #[.int .i64 0, .string ⟨#[]⟩, .int .i64 (A : Int)] 35)).heap.size = w2.heap.size + 1 by simp; omega] at this
            refine bodyPost_ret (v := .tuple #[.slice (some ⟨w2.heap.size + 1, 0, none⟩) 0 0, .agg #[.int .i64 2, .int .i64 (A : Int)]]) (by simp [results, Tryd.results19, go_sem, d0, d1]) rfl ?_
            exact ⟨.slice (some ⟨w2.heap.size + 1, 0, none⟩) 0 0, by rw [HE.out], (HB5.out.alloc (by omega) _).alloc (by simp; omega) _, by rw [HE.out]; exact hown5⟩
          · obtain ⟨k, e2⟩ := K
            simp only at hf he
            obtain ⟨E, rfl⟩ : ∃ E : Nat, e2 = E := ⟨e2.toNat, by omega⟩
            have hEA : A < E := by omega
            have hEs : E ≤ s.size := by omega
            have HST := Lib.hid (lex_step HGA.out hlt HK.out.symm hEA)
            have hk0 := neI (show ¬ k = 0 by omega)
            obtain ⟨k1, k2⟩ := hk0
            obtain ⟨x, hx⟩ : ∃ x, x = s.extract A E := ⟨_, rfl⟩
            have HXS := Lib.hid (show x.size = E - A by rw [hx, cut_size hEs])
            have hxs : x.size ≤ 3000 := by rw [HXS.out]; omega
            rw [← hx] at HST
            have HN := Lib.hid ((next_yes (s := s) (A := A) (prev := P) HK.out.symm hEA).trans (by rw [← hx]))
            have hdn : ((d.length : Int) == 3000) = false := by rw [beq_eq_false_iff_ne]; omega
            clear hf he hx
            go_wp2_with (first | (go_at_call 42; refine (chars.spec_blank _ _).mono ?_; rintro e w' ⟨rfl, rfl⟩) | (go_at_call 38; refine (operand.spec_ends _ _).mono ?_; rintro e w' ⟨rfl, rfl⟩))
            refine (spec_next s A P _ hs hlt).mono ?_
            rintro e w2 ⟨he, b2⟩
            rw [HN.out] at he
            subst he
            have HB2 := Lib.hid (HBEL.out.trans (b2.mono HBEL.out.size))
            have HF2 := Lib.hid (HFB.out.keep b2 hlt3)
            have hlt4 := HF2.out.lt
            have HO2 := Lib.hid (HOWN.out.keep b2 (Nat.le_refl _))
            have HB3 := Lib.hid (show Below (w.heap.size + 1) w2 (w2.alloc (.cells #[.int .i64 k, .string x, .int .i64 (A : Int)] 35)) from (Below.refl _ _).alloc (by omega) _)
            have HO3 := Lib.hid (show Own (w.heap.size + 1) (.slice a d.length cap) d (w2.alloc (.cells #[.int .i64 k, .string x, .int .i64 (A : Int)] 35)) from HO2.out.keep ((Below.refl w2.heap.size w2).alloc (Nat.le_refl _) _) (Nat.le_refl _))
            clear b2
            go_wp2_with (at_builtin; refine wpList_append_tok (w2.alloc (.cells #[.int .i64 k, .string x, .int .i64 (A : Int)] 35)) ⟨k, x, (A : Int)⟩ rfl _ _ rfl (w.heap.size + 1) _ d rfl HO3.out (by simp [Act.eval]) ?n1 ?n2 ?n3)
            case n1 => omega
            case n2 => simp; omega
            case n3 =>
              intro v' w3 hown' b3 g3
              have HO := Lib.hid hown'
              have HB4 := Lib.hid b3
              have HF4 := Lib.hid ((HF2.out.keep ((Below.refl (w.heap.size + 1) w2).alloc (by omega) (.cells #[.int .i64 k, .string x, .int .i64 (A : Int)] 35)) (Nat.lt_succ_self _)).keep b3 (Nat.lt_succ_self _))
              have HBB := Lib.hid ((HB2.out.alloc (by omega) (.cells #[.int .i64 k, .string x, .int .i64 (A : Int)] 35)).trans (b3.mono (Nat.le_succ _)))
              have HT3 := Lib.hid (show B3 w2.heap.size k (A : Int) x w3 from (g3.block w2.heap.size (by simp) HO2.out.not_new).trans (B3.new w2 k (A : Int) x))
              obtain ⟨t0, t1, t2⟩ := HT3.out.c
              clear hown' b3 g3
              go_wp2
              go_roundw
              case rel => exact ⟨d ++ [⟨k, x, (A : Int)⟩], k, E, HO.out, rfl, congrArg (Value.int .i64) (by have := HXS.out; omega), hEs, by rw [push_push, ← HST.out]; exact HPUSH.out, by simp; omega, HBB.out, HF4.out⟩
              case measure => have := HXS.out; simp [intOf]; omega
      · have HG := Lib.hid (lex_gap (prev := P) (gap_blank hlt (by rw [hz]; exact hb)))
        clear hz
        go_wp2_with (go_at_call 42; refine (chars.spec_blank _ _).mono ?_; rintro e w' ⟨rfl, rfl⟩)
        go_roundw
        case rel => exact ⟨d, P, A + 1, HOWN.out, rfl, by go_num, by omega, by rw [← HG.out]; exact HPUSH.out, by omega, HBEL.out, HFB.out⟩
        case measure => simp [intOf]; omega
    · obtain rfl : A = s.size := by omega
      have HE := Lib.hid (lexF_ok HBIG.out (show lexZ s 0 0 = .inr d by rw [← HPUSH.out, lex_end (by rw [gap_out (by omega)]; omega)]; simp [push]))
      have f0 : wr.frozen? ⟨w.heap.size, 0, none⟩ = false := frozen_of_row wr _ 0 _ _ HFB.out
      have f1 : wr.frozen? ⟨w.heap.size, 1, none⟩ = false := frozen_of_row wr _ 1 _ _ HFB.out
      have c0 : wr.cell? ⟨w.heap.size, 0, none⟩ = some (.int .i64 0) := by rw [cell_of_row wr _ 0 _ _ _ HFB.out]; rfl
      have c1 : wr.cell? ⟨w.heap.size, 1, none⟩ = some (.int .i64 0) := by rw [cell_of_row wr _ 1 _ _ _ HFB.out]; rfl
      go_wp2
      obtain ⟨d0, d1⟩ := fbox_cells HFB.out (.int .i64 0) (.int .i64 0)
      refine bodyPost_ret (v := .tuple #[u4, .agg #[.int .i64 0, .int .i64 0]]) (by simp [results, Tryd.results19, go_sem, d0, d1]) rfl ?_
      exact ⟨u4, by rw [HE.out], below_set2 HBEL.out _ _, by rw [HE.out]; exact HOWN.out.set2 _ _⟩
end Go.Proofs.YtlbloemmabjmoaaDoor.lex
