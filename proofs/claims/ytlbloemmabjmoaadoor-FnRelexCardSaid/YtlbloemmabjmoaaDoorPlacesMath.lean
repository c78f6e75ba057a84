/-
  What the lexer's tokens are: each lies where it says, is right for its kind, stands behind blanks alone, and all together could be a lexer's result. No program's text is walked here.
-/
import Derived.Test.YtlbloemmabjmoaaDoorLexMath
import Derived.Test.YtlbloemmabjmoaaDoorLexTop
import Derived.Test.YtlbloemmabjmoaaDoorToksOk
namespace Go.Proofs.YtlbloemmabjmoaaDoor.plc
open Go.RowKit
open tk scan lex
set_option linter.unusedVariables false

theorem run_all (p : Int → Bool) (s : ByteArray) (i j : Int) (h : i ≤ j) (h2 : j < runEnd p s i) : p (byteZ s j) = true := by
  generalize hn : ((s.size : Int) - i).toNat = n
  induction n using Nat.strongRecOn generalizing i with
  | ind n ih =>
    rw [runEnd] at h2
    split at h2
    · rename_i hc
      rcases Int.lt_or_eq_of_le h with hl | rfl
      · exact ih _ (by omega) (i + 1) (by omega) h2 rfl
      · exact hc.1
    · omega
theorem run_over {p : Int → Bool} (hp : Cls p) (s : ByteArray) (i : Int) : p (byteZ s (runEnd p s i)) = false := by
  generalize hn : ((s.size : Int) - i).toNat = n
  induction n using Nat.strongRecOn generalizing i with
  | ind n ih =>
    by_cases hc : p (byteZ s i) = true
    · have := hp.range hc
      rw [run_step hp hc]
      exact ih _ (by omega) (i + 1) rfl
    · rw [run_stop (by simpa using hc)]
      simpa using hc

theorem cut_one {s : ByteArray} {i : Nat} (h : i < s.size) : (s.extract i (i + 1)).toList = [s[i]] := by
  rw [ByteArray.toList_eq, Lib.extract_data]
  have h1 : i < s.data.toList.length := h
  rw [List.drop_eq_getElem_cons h1, show i + 1 - i = 1 by omega]
  simp
  rfl

theorem quoted_cut {s : ByteArray} {g : Int} {K : Nat} (hg : g ≠ -1) (h : 0 ≤ scan.quoted s K g) : ∃ E : Nat, scan.quoted s K g = E ∧ K < E ∧ E ≤ s.size ∧ scan.quoted (s.extract K E) 0 g = (E : Int) - K := by
  have hb : byteZ s K = g := by
    by_cases hb : byteZ s K = g
    · exact hb
    · rw [quoted_out hb] at h; omega
  rw [quoted_in hb] at h ⊢
  have hp := q_props h
  obtain ⟨E, hE⟩ : ∃ E : Nat, qEnd s g (K + 1) = E := ⟨(qEnd s g (K + 1)).toNat, by omega⟩
  have hEs : E ≤ s.size := by omega
  have hKE : K ≤ E := by omega
  refine ⟨E, hE, by omega, hEs, ?_⟩
  have b0 := cut_byte hEs hKE 0 (by omega) (by omega)
  rw [show (K : Int) + 0 = K by omega] at b0
  have e : scan.quoted (s.extract K E) 0 g = qEnd (s.extract K E) g (0 + 1) := quoted_in (I := 0) (b0.trans hb)
  rw [e, q_cut hEs hKE (0 + 1) hE]
theorem ere_cut {s : ByteArray} {K : Nat} (h : 0 ≤ ereEnd s K) : ∃ E : Nat, ereEnd s K = E ∧ K < E ∧ E ≤ s.size ∧ ereEnd (s.extract K E) 0 = ((s.extract K E).size : Int) := by
  have hq : ¬ scan.quoted s K 47 = K + 2 := fun hq => by unfold ereEnd at h; rw [if_pos hq] at h; omega
  have he : ereEnd s K = scan.quoted s K 47 := by unfold ereEnd; rw [if_neg hq]
  rw [he] at h ⊢
  obtain ⟨E, h1, h2, h3, h4⟩ := quoted_cut (by decide) h
  refine ⟨E, h1, h2, h3, ?_⟩
  unfold ereEnd
  rw [h4, if_neg (by omega), cut_size h3]
  omega

/-- The longest operator: its number, and that it lies there. -/
theorem opTo_sign (s : ByteArray) (i : Nat) : ∀ k, k ≤ 39 → ops.opTo s i k = (0, 0) ∨ ∃ K : Nat, K < 39 ∧ ops.opTo s i k = ((K : Int) + 30, ((ops.signAt K).size : Int)) ∧ ops.here s i (ops.signAt K) = true
  | 0, _ => .inl rfl
  | k + 1, h => by
    rw [ops.opTo]
    split
    · rename_i hc
      exact .inr ⟨k, by omega, rfl, hc.1⟩
    · exact opTo_sign s i k (by omega)
theorem sign_40 : ∀ K, K < 39 → (ops.signAt K).data.toList.getD 0 0 = 40 → K = 2 := by decide +kernel
theorem sign_47 : ∀ K, K < 39 → (K = 28 ∨ K = 11) → (ops.signAt K).data.toList.getD 0 0 = 47 := by decide +kernel
theorem here_head {s p : ByteArray} {i : Nat} (hi : i < s.size) (hp : 1 ≤ p.size) (h : ops.here s i p = true) : byteZ s i = ((p.data.toList.getD 0 0).toNat : Int) ∧ i + p.size ≤ s.size ∧ (s.extract i (i + p.size)).toList = p.toList := by
  rw [ops.here_cut (by omega)] at h
  simp only [Bool.and_eq_true, decide_eq_true_eq, beq_iff_eq] at h
  obtain ⟨h1, h2⟩ := h
  have hE : i + p.size ≤ s.size := by omega
  refine ⟨?_, hE, h2⟩
  rw [ByteArray.toList_eq, ByteArray.toList_eq] at h2
  rw [← h2, cut_get hE (by omega), byte_in hi]
  rw [show i + 0 = i by omega, chars.byte_at s i hi]

theorem ne_list {x : ByteArray} (h : 0 < x.size) : x.toList.isEmpty = false := chars.ne_empty h
theorem tok_spelt {k : Int} {x : ByteArray} (h : k = 1 ∨ 9 ≤ k) (h0 : 0 < x.size) (e : x.toList = (spell.spell k).toList) : tok.tokOk k x = true := by
  unfold tok.tokOk
  rw [if_neg (by omega), if_neg (by omega), if_neg (by omega), if_neg (by omega), if_neg (by omega), if_neg (by omega), ne_list h0, e]
  simp
theorem kw_spell {x : ByteArray} (h : ¬ spell.keyword x = 0) : spell.spell (spell.keyword x) = x ∧ 10 ≤ spell.keyword x := by
  unfold spell.keyword at h ⊢
  by_cases hp : toks.place toks.words x < toks.words.length
  · rw [if_pos hp]
    have h17 : toks.words.length = 17 := rfl
    rw [Int.add_comm, Int.add_comm 10, spell.spell_word _ (by omega)]
    refine ⟨?_, by omega⟩
    have hf := List.findIdx_getElem (xs := toks.words) (p := fun b => decide (b = x)) (w := hp)
    have hf' : toks.words[toks.place toks.words x] = x := of_decide_eq_true hf
    rw [List.getD_eq_getElem?_getD, List.getElem?_eq_getElem hp]
    exact hf'
  · rw [if_neg hp] at h
    exact absurd rfl h

/-- What a token is. -/
structure Good (s : ByteArray) (i : Nat) (prev k e : Int) : Prop where
  ok : tok.tokOk k (s.extract i e.toNat) = true
  fn : k = 7 → byteZ s e = 40
  cm : k = 2 → byteZ s e = 10 ∨ byteZ s e = -1
  er : k = 5 → operand.ends prev = false
  dv : k = 58 ∨ k = 41 → operand.ends prev = true
  lp : byteZ s i = 40 → k = 32
  nl : byteZ s i = 10 → k = 1
theorem kind_more (s : ByteArray) (i : Nat) (prev : Int) (hi : i < s.size) (h : (i : Int) < (kindAt s i prev).2) : Good s i prev (kindAt s i prev).1 (kindAt s i prev).2 := by
  unfold kindAt at h ⊢
  by_cases h1 : byteZ s i = 10
  · rw [if_pos h1]
    refine ⟨?_, by simp, by simp, by simp, by simp, by omega, fun _ => rfl⟩
    simp only
    rw [show ((i : Int) + 1).toNat = i + 1 by omega]
    refine tok_spelt (.inl rfl) (by rw [cut_size (by omega)]; omega) ?_
    rw [cut_one hi]
    rw [byte_in hi] at h1
    have : s[i] = 10 := by apply UInt8.toNat_inj.1; show s[i].toNat = 10; omega
    rw [this, show spell.spell 1 = ⟨#[10]⟩ from rfl, ByteArray.toList_eq]
  rw [if_neg h1] at h ⊢
  by_cases h2 : byteZ s i = 35
  · rw [if_pos h2] at h ⊢
    have hl : line (byteZ s i) = true := by rw [h2]; decide
    have b2 := run_le line s i (by omega)
    unfold cmtEnd at h ⊢
    simp only at h
    obtain ⟨E, hE⟩ : ∃ E : Nat, runEnd line s i = E := ⟨(runEnd line s i).toNat, by omega⟩
    have ho := run_over cls_line s i
    refine ⟨?_, by simp, fun _ => ?_, by simp, by simp, by omega, fun hh => absurd hh h1⟩
    · simp only
      rw [hE] at h b2 ⊢
      rw [show ((E : Int)).toNat = E by omega]
      have hEs : E ≤ s.size := by omega
      have hsz := cut_size (s := s) (K := i) hEs
      show tok.comment _ = true
      unfold tok.comment
      rw [tok.hash_head (by omega), cut_at hEs (by omega) (by omega)]
      have hb : (s[i + 0].toNat : Int) = 35 := by rw [byte_in hi] at h2; exact h2
      rw [decide_eq_true hb, tok.free_end]
      · rfl
      · intro j hj
        rw [tok.byte_get _ j hj, cut_at hEs (by omega) hj]
        have := run_all line s i ((i + j : Nat) : Int) (by omega) (by omega)
        rw [byte_in (by omega)] at this
        intro e
        injection e with e
        rw [e] at this
        exact absurd this (by decide)
    · unfold line at ho
      simp at ho
      simp only
      by_cases hx : byteZ s (runEnd line s i) = 10
      · exact .inl hx
      · exact .inr (ho hx)
  rw [if_neg h2] at h ⊢
  by_cases h3 : chars.isDigit (byteZ s i) = true ∨ byteZ s i = 46
  · rw [if_pos h3] at h ⊢
    simp only at h
    obtain ⟨K, E, hK, hE, k1, k2, k3⟩ := num_cut (s := s) (k := i) (by omega)
    refine ⟨?_, by simp, by simp, by simp, by simp, fun hh => ?_, fun hh => absurd hh h1⟩
    · simp only
      obtain rfl : i = K := by omega
      rw [hE, show ((E : Int)).toNat = E by omega]
      show (numEnd (s.extract i E) 0 == ((s.extract i E).size : Int)) = true
      rw [k3]; simp
    · rw [hh] at h3; exact absurd h3 (by decide)
  rw [if_neg h3] at h ⊢
  by_cases h4 : byteZ s i = 34
  · rw [if_pos h4] at h ⊢
    simp only at h
    obtain ⟨K, E, hK, hE, k1, k2, k3⟩ := str_cut (s := s) (k := i) (by omega)
    refine ⟨?_, by simp, by simp, by simp, by simp, by omega, fun hh => absurd hh h1⟩
    simp only
    obtain rfl : i = K := by omega
    rw [hE, show ((E : Int)).toNat = E by omega]
    show (strEnd (s.extract i E) 0 == ((s.extract i E).size : Int)) = true
    rw [k3]; simp
  rw [if_neg h4] at h ⊢
  by_cases h5 : byteZ s i = 47 ∧ operand.ends prev = false
  · rw [if_pos h5] at h ⊢
    simp only at h
    obtain ⟨E, hE, k1, k2, k3⟩ := ere_cut (s := s) (K := i) (by omega)
    refine ⟨?_, by simp, by simp, fun _ => h5.2, by simp, by omega, fun hh => absurd hh h1⟩
    simp only
    rw [hE, show ((E : Int)).toNat = E by omega]
    show (ereEnd (s.extract i E) 0 == ((s.extract i E).size : Int)) = true
    rw [k3]; simp
  rw [if_neg h5] at h ⊢
  by_cases h6 : chars.isLetter (byteZ s i) = true
  · rw [if_pos h6] at h ⊢
    have hb := name_end_bd h6
    have hlp : byteZ s i ≠ 40 := fun hh => by rw [hh] at h6; exact absurd h6 (by decide)
    unfold wordAt at h ⊢
    obtain ⟨E, hE⟩ : ∃ E : Nat, nameEnd s i = E := ⟨(nameEnd s i).toNat, by omega⟩
    rw [hE] at hb h ⊢
    rw [show ((E : Int)).toNat = E by omega] at h ⊢
    have hsz := cut_size (s := s) (K := i) (E := E) (by omega)
    by_cases g1 : chars.nameShape (s.extract i E) = true
    · rw [if_pos g1] at h ⊢
      by_cases g2 : spell.keyword (s.extract i E) = 0
      · rw [if_pos g2] at h ⊢
        by_cases g3 : toks.isBuiltin (s.extract i E) = true
        · rw [if_pos g3] at h ⊢
          refine ⟨?_, by simp, by simp, by simp, by simp, fun hh => absurd hh hlp, fun hh => absurd hh h1⟩
          simp only
          rw [show ((E : Int)).toNat = E by omega]
          exact g3
        · rw [if_neg g3] at h ⊢
          have hn : spell.nameOk (s.extract i E) = true := by
            unfold spell.nameOk
            rw [g1, g2]
            simpa using g3
          by_cases g4 : byteZ s (E : Int) = 40
          · rw [if_pos g4] at h ⊢
            refine ⟨?_, fun _ => g4, by simp, by simp, by simp, fun hh => absurd hh hlp, fun hh => absurd hh h1⟩
            simp only
            rw [show ((E : Int)).toNat = E by omega]
            exact hn
          · rw [if_neg g4] at h ⊢
            refine ⟨?_, by simp, by simp, by simp, by simp, fun hh => absurd hh hlp, fun hh => absurd hh h1⟩
            simp only
            rw [show ((E : Int)).toNat = E by omega]
            exact hn
      · rw [if_neg g2] at h ⊢
        obtain ⟨w1, w2⟩ := kw_spell g2
        have w3 := spell.kw_bd (s.extract i E)
        refine ⟨?_, by simp only; omega, by simp only; omega, by simp only; omega, by simp only; omega, fun hh => absurd hh hlp, fun hh => absurd hh h1⟩
        simp only
        rw [show ((E : Int)).toNat = E by omega]
        exact tok_spelt (.inr (by omega)) (by omega) (by rw [w1])
    · rw [if_neg g1] at h
      simp only at h
      omega
  rw [if_neg h6] at h ⊢
  rcases opTo_sign s i 39 (Nat.le_refl _) with h0 | ⟨K, hK, he, hh⟩
  · have h0' : ops.opAt s i = (0, 0) := h0
    rw [h0'] at h
    simp only at h
    omega
  · have he' : ops.opAt s i = ((K : Int) + 30, ((ops.signAt K).size : Int)) := he
    have hbd := ops.sign_bd K hK
    obtain ⟨z1, z2, z3⟩ := here_head hi hbd.1 hh
    rw [he']
    simp only
    refine ⟨?_, by omega, by omega, by omega, fun hd => ?_, fun hq => ?_, fun hq => absurd hq h1⟩
    · rw [show ((i : Int) + ((ops.signAt K).size : Int)).toNat = i + (ops.signAt K).size by omega]
      refine tok_spelt (.inr (by omega)) (by rw [cut_size z2]; omega) ?_
      rw [z3, spell.spell_sign K hK]
      rfl
    · have hs := sign_47 K hK (by omega)
      rw [hs] at z1
      have z1' : byteZ s i = 47 := z1
      cases hx : operand.ends prev
      · exact absurd ⟨z1', hx⟩ h5
      · rfl
    · rw [hq] at z1
      have : (ops.signAt K).data.toList.getD 0 0 = 40 := by apply UInt8.toNat_inj.1; show _ = 40; omega
      have := sign_40 K hK this
      omega

/-- Between tokens. -/
def blankish (b : Int) : Prop := b = 32 ∨ b = 9 ∨ b = 92 ∨ b = 10
theorem gap_bytes (s : ByteArray) (i j : Nat) (h : i ≤ j) (h2 : j < gapZ s i) : blankish (byteZ s j) := by
  generalize hn : s.size - i = n
  induction n using Nat.strongRecOn generalizing i with
  | ind n ih =>
    by_cases hl : i < s.size
    · cases hb : chars.isBlank (byteZ s i)
      · by_cases hj : byteZ s i = 92 ∧ byteZ s ((i : Int) + 1) = 10
        · rw [gap_join hl hb hj] at h2
          have hlt := join_lt hj.2
          by_cases e0 : j = i
          · subst e0; exact .inr (.inr (.inl hj.1))
          · by_cases e1 : j = i + 1
            · subst e1; exact .inr (.inr (.inr hj.2))
            · exact ih _ (by omega) (i + 2) (by omega) h2 rfl
        · rw [gap_stop hl hb hj] at h2; omega
      · rw [gap_blank hl hb] at h2
        by_cases e0 : j = i
        · subst e0
          unfold chars.isBlank at hb
          simp at hb
          unfold blankish
          omega
        · exact ih _ (by omega) (i + 1) (by omega) h2 rfl
    · rw [gap_out hl] at h2; omega

/-- Tokens that lie in a text from a place on. -/
def Pl (s : ByteArray) : Nat → List Tk → Prop
  | _, [] => True
  | i, t :: l => ∃ g e : Nat, t.a = (g : Int) ∧ i ≤ g ∧ g < e ∧ e ≤ s.size ∧ t.s = s.extract g e ∧ (∀ j, i ≤ j → j < g → blankish (byteZ s j)) ∧ tok.tokOk t.k t.s = true ∧ Pl s e l
theorem lex_pl (s : ByteArray) (i : Nat) (prev : Int) (hf : prev = 7 → byteZ s i = 40) (hc : prev = 2 → byteZ s i = 10 ∨ byteZ s i = -1) (l : List Tk) (hl : lexZ s i prev = .inr l) : Pl s i l ∧ tksok.okFrom prev l = true := by
  generalize hn : s.size - i = n
  induction n using Nat.strongRecOn generalizing i prev l with
  | ind n ih =>
    have hg := gap_bd s i
    have hgap : byteZ s i = 40 ∨ byteZ s i = 10 → gapZ s i = i ∧ i < s.size := by
      intro hb
      have hr := byte_range (s := s) (i := i) (by omega)
      have hi : i < s.size := by omega
      refine ⟨gap_stop hi ?_ (by omega), hi⟩
      rcases hb with hb | hb <;> rw [hb] <;> decide
    by_cases hlt : gapZ s i < s.size
    · by_cases h2 : (gapZ s i : Int) < (kindAt s (gapZ s i) prev).2
      · have good := kind_more s (gapZ s i) prev hlt h2
        have kf := kind_facts s (gapZ s i) prev hlt
        obtain ⟨g, hgg⟩ : ∃ g, g = gapZ s i := ⟨_, rfl⟩
        rw [← hgg] at good kf hlt h2 hg
        obtain ⟨k, e, hke⟩ : ∃ k e, kindAt s g prev = (k, e) := ⟨_, _, rfl⟩
        rw [hke] at good kf h2
        simp only at good kf h2
        obtain ⟨E, rfl⟩ : ∃ E : Nat, e = E := ⟨e.toNat, by omega⟩
        have hst := lex_step hgg.symm hlt hke (by omega)
        rw [hst] at hl
        cases hr : lexZ s E k with
        | inl f => rw [hr] at hl; simp [push] at hl
        | inr m =>
          rw [hr] at hl
          simp only [push, Sum.inr.injEq] at hl
          subst hl
          have IH := ih (s.size - E) (by omega) E k (fun h => good.fn h) (fun h => good.cm h) m hr rfl
          have hok := good.ok
          rw [show ((E : Int)).toNat = E by omega] at hok
          refine ⟨⟨g, E, rfl, hg.1, by omega, by omega, rfl, fun j h1 h3 => gap_bytes s i j h1 (by omega), hok, IH.1⟩, ?_⟩
          show (tok.tokOk k (s.extract g E) && (tksok.follow prev k && tksok.okFrom k m)) = true
          rw [hok, IH.2]
          simp only [Bool.true_and, Bool.and_true]
          unfold tksok.follow
          have f7 : ¬ (prev = 7 ∧ ¬ k = 32) := by
            rintro ⟨a, b⟩
            have h40 := hf a
            have := (hgap (.inl h40)).1
            exact b (good.lp (by rw [hgg, this]; exact h40))
          have f2 : ¬ (prev = 2 ∧ ¬ k = 1) := by
            rintro ⟨a, b⟩
            rcases hc a with h10 | h10
            · have := (hgap (.inr h10)).1
              exact b (good.nl (by rw [hgg, this]; exact h10))
            · by_cases hi : i < s.size
              · rw [byte_in hi] at h10
                omega
              · rw [gap_out hi] at hgg
                omega
          rw [if_neg f7, if_neg f2]
          by_cases k5 : k = 5
          · rw [if_pos k5, good.er k5]; rfl
          · rw [if_neg k5]
            by_cases k6 : k = 58 ∨ k = 41
            · rw [if_pos k6, good.dv k6]
            · rw [if_neg k6]
      · rw [lex_none hlt (by omega)] at hl
        cases hl
    · rw [lex_end hlt] at hl
      simp only [Sum.inr.injEq] at hl
      subst hl
      refine ⟨trivial, ?_⟩
      show (prev != 7) = true
      by_cases h7 : prev = 7
      · have := hgap (.inl (hf h7))
        omega
      · simpa using h7

/-- Of a whole text. -/
theorem lexF_pl {s : ByteArray} (h : (lexF s).2.1 = 0) : Pl s 0 (lexF s).1 ∧ tksok.tokensOk (lexF s).1 = true := by
  have hlen := lexF_len s
  unfold lexF at h hlen ⊢
  by_cases h3 : 3000 < s.size
  · rw [if_pos h3] at h; exact absurd h (by decide)
  · rw [if_neg h3] at h hlen ⊢
    cases hz : lexZ s 0 0 with
    | inl f => rw [hz] at h; exact absurd (show (2 : Int) = 0 from h) (by decide)
    | inr l =>
      rw [hz] at hlen
      obtain ⟨p1, p2⟩ := lex_pl s 0 0 (fun h => absurd h (by decide)) (fun h => absurd h (by decide)) l hz
      refine ⟨p1, ?_⟩
      unfold tksok.tokensOk
      simp only at hlen ⊢
      rw [p2, decide_eq_true hlen]
      rfl
theorem lexZ_fault (s : ByteArray) (i : Nat) (prev : Int) (f : Nat) (hl : lexZ s i prev = .inl f) : f < s.size := by
  generalize hn : s.size - i = n
  induction n using Nat.strongRecOn generalizing i prev with
  | ind n ih =>
    have hg := (gap_bd s i).1
    by_cases hlt : gapZ s i < s.size
    · by_cases h2 : (gapZ s i : Int) < (kindAt s (gapZ s i) prev).2
      · obtain ⟨k, e, hke⟩ : ∃ k e, kindAt s (gapZ s i) prev = (k, e) := ⟨_, _, rfl⟩
        rw [hke] at h2
        simp only at h2
        obtain ⟨E, rfl⟩ : ∃ E : Nat, e = E := ⟨e.toNat, by omega⟩
        rw [lex_step rfl hlt hke (by omega)] at hl
        cases hr : lexZ s E k with
        | inl g =>
          rw [hr] at hl
          simp only [push, Sum.inl.injEq] at hl
          subst hl
          exact ih (s.size - E) (by omega) E k hr rfl
        | inr m => rw [hr] at hl; simp [push] at hl
      · rw [lex_none hlt (by omega)] at hl
        simp only [Sum.inl.injEq] at hl
        omega
    · rw [lex_end hlt] at hl
      cases hl
theorem lexF_bad {s : ByteArray} (h : ¬ (lexF s).2.1 = 0) : (lexF s).1 = [] ∧ 0 ≤ (lexF s).2.2 ∧ (lexF s).2.2 ≤ (s.size : Int) := by
  unfold lexF at h ⊢
  by_cases h3 : 3000 < s.size
  · rw [if_pos h3]; simp
  · rw [if_neg h3] at h ⊢
    cases hz : lexZ s 0 0 with
    | inl f =>
      have := lexZ_fault s 0 0 f hz
      exact ⟨rfl, Int.natCast_nonneg f, by show (f : Int) ≤ _; omega⟩
    | inr l => rw [hz] at h; exact absurd rfl h
end Go.Proofs.YtlbloemmabjmoaaDoor.plc
