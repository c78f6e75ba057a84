/-
  RE-LEXING as mathematics: tokens that could be a lexer's result, spelled with a space where one is needed, are read as themselves ('lexF_spell'). No program's text is walked here.
-/
import Derived.Test.YtlbloemmabjmoaaDoorRelexKind
import Derived.Test.YtlbloemmabjmoaaDoorSame
namespace Go.Proofs.YtlbloemmabjmoaaDoor.rlx
open Go.RowKit
open tk scan lex plc
open gap (needsGap)
open spelled (gapB sp spellB)
set_option linter.unusedVariables false

def headB : List UInt8 → Int
  | [] => -1
  | b :: _ => (b.toNat : Int)
theorem byte_head {s : ByteArray} {a r : List UInt8} (h : s.data.toList = a ++ r) : byteZ s (a.length : Int) = headB r := by
  have hs : s.size = a.length + r.length := by
    have : s.data.toList.length = s.size := rfl
    rw [← this, h, List.length_append]
  cases r with
  | nil => exact byte_out (.inr (by simp at hs; omega))
  | cons b r =>
    unfold byteZ
    rw [if_pos (by simp at hs; omega), h, show ((a.length : Int)).toNat = a.length by omega]
    simp [headB]
theorem head_size {s : ByteArray} {a r : List UInt8} (h : s.data.toList = a ++ r) : s.size = a.length + r.length := by
  have : s.data.toList.length = s.size := rfl
  rw [← this, h, List.length_append]
theorem head_text {x : ByteArray} (hx : 0 < x.size) (r : List UInt8) : headB (x.data.toList ++ r) = byteZ x 0 := by
  have h1 : 0 < x.data.toList.length := hx
  rw [zero_byte hx]
  cases e : x.data.toList with
  | nil => rw [e] at h1; exact absurd h1 (by decide)
  | cons b t =>
    have : x[0] = b := by
      rw [← chars.byte_at x 0 hx, e]; rfl
    rw [this]
    rfl
theorem text_at {s x : ByteArray} {a r : List UInt8} (h : s.data.toList = a ++ (x.data.toList ++ r)) : s.extract a.length (a.length + x.size) = x ∧ a.length + x.size ≤ s.size := by
  have hx : x.data.toList.length = x.size := rfl
  constructor
  · apply ByteArray.ext
    apply Array.toList_inj.1
    rw [Lib.extract_data, h, List.drop_left, show a.length + x.size - a.length = x.data.toList.length by omega, List.take_left]
  · have := head_size h
    rw [List.length_append] at this
    omega

theorem head_first {k : Int} {x : ByteArray} (h : Head k x) (hpos : 0 < x.size) : chars.isBlank (byteZ x 0) = false ∧ byteZ x 0 ≠ 92 ∧ (byteZ x 0 = 40 → k = 32) := by
  have word : chars.isLetter (byteZ x 0) = true → chars.isBlank (byteZ x 0) = false ∧ byteZ x 0 ≠ 92 ∧ (byteZ x 0 = 40 → k = 32) := by
    intro hl
    generalize byteZ x 0 = b at hl
    unfold chars.isLetter chars.inR at hl
    simp only [Bool.or_eq_true, Bool.and_eq_true, decide_eq_true_eq, beq_iff_eq] at hl
    unfold chars.isBlank
    simp only [Bool.or_eq_false_iff, beq_eq_false_iff_ne]
    refine ⟨⟨?_, ?_⟩, ?_, ?_⟩ <;> omega
  cases h with
  | nl h hx => subst hx; refine ⟨by decide, by decide, fun hc => absurd hc (by decide)⟩
  | cm h hc hb => rw [hb]; refine ⟨by decide, by decide, fun hc => absurd hc (by decide)⟩
  | nm h he hb =>
    generalize byteZ x 0 = b at hb
    unfold chars.isDigit chars.inR at hb
    simp only [Bool.and_eq_true, decide_eq_true_eq] at hb
    unfold chars.isBlank
    simp only [Bool.or_eq_false_iff, beq_eq_false_iff_ne]
    refine ⟨⟨?_, ?_⟩, ?_, ?_⟩ <;> omega
  | st h he hb => rw [hb]; refine ⟨by decide, by decide, fun hc => absurd hc (by decide)⟩
  | er h he hb => rw [hb]; refine ⟨by decide, by decide, fun hc => absurd hc (by decide)⟩
  | wd h hs hk hn => exact word (shape_run hs).2.1
  | bi h hs hk hn => exact word (shape_run hs).2.1
  | kw h hs hk => exact word (shape_run hs).2.1
  | op g hg h hx =>
    have hf := sign_first g hg
    have hb : byteZ x 0 = (((ops.signAt g).data.toList.getD 0 0).toNat : Int) := by rw [zero_byte hpos, ← chars.byte_at x 0 hpos, hx]
    rw [← hb] at hf
    obtain ⟨-, -, -, -, -, -, n1, n2, n3⟩ := odd_facts hf
    refine ⟨?_, n3, fun hc => ?_⟩
    · unfold chars.isBlank
      simp only [Bool.or_eq_false_iff, beq_eq_false_iff_ne]
      exact ⟨n1, n2⟩
    · have hd : (ops.signAt g).data.toList.getD 0 0 = 40 := by apply UInt8.toNat_inj.1; show _ = 40; omega
      have := sign_40 g hg hd
      omega
theorem paren_text {x : ByteArray} (h : tok.tokOk 32 x = true) : byteZ x 0 = 40 ∧ 0 < x.size := by
  obtain ⟨hh, hp⟩ := tok_head h
  refine ⟨?_, hp⟩
  cases hh with
  | op g hg h hx =>
    obtain rfl : g = 2 := by omega
    rw [hx]; decide
  | nl h => omega
  | cm h => omega
  | nm h => omega
  | st h => omega
  | er h => omega
  | wd h => omega
  | bi h => omega
  | kw h => omega
theorem newline_text {x : ByteArray} (h : tok.tokOk 1 x = true) : byteZ x 0 = 10 ∧ 0 < x.size := by
  obtain ⟨hh, hp⟩ := tok_head h
  refine ⟨?_, hp⟩
  cases hh with
  | nl h hx => rw [hx]; decide
  | op g hg h hx => omega
  | cm h => omega
  | nm h => omega
  | st h => omega
  | er h => omega
  | wd h => omega
  | bi h => omega
  | kw h => omega
theorem shape_last {x : ByteArray} (h : chars.nameShape x = true) : chars.isWord (byteZ x ((x.size : Int) - 1)) = true := by
  obtain ⟨h1, h2, h3⟩ := shape_run h
  exact run_all chars.isWord x 0 _ (by omega) (by omega)
theorem word_last {k : Int} {x : ByteArray} (h : tok.tokOk k x = true) (hk : k = 6 ∨ k = 7 ∨ k = 8 ∨ (10 ≤ k ∧ k ≤ 26)) : chars.isWord (byteZ x ((x.size : Int) - 1)) = true := by
  cases (tok_head h).1 with
  | wd h hs => exact shape_last hs
  | bi h hs => exact shape_last hs
  | kw h hs => exact shape_last hs
  | nl h => omega
  | op g hg h hx => omega
  | cm h => omega
  | nm h => omega
  | st h => omega
  | er h => omega
theorem sign_second : ∀ K, K < 39 → (ops.signAt K).size = 2 → (ops.signAt K).data.toList.getD 1 0 ≠ 32 ∧ (ops.signAt K).data.toList.getD 1 0 ≠ 10 := by decide +kernel
theorem here_second {s : ByteArray} {K g : Nat} (hK : K ≤ s.size) (hg : g < 39) (h2 : (ops.signAt g).size = 2) (h : ops.here s K (ops.signAt g) = true) : byteZ s ((K + 1 : Nat) : Int) ≠ 32 ∧ byteZ s ((K + 1 : Nat) : Int) ≠ 10 ∧ K + 2 ≤ s.size := by
  rw [ops.here_cut hK, h2] at h
  simp only [Bool.and_eq_true, decide_eq_true_eq, beq_iff_eq] at h
  obtain ⟨e1, e2⟩ := h
  have hE : K + 2 ≤ s.size := by omega
  obtain ⟨n1, n2⟩ := sign_second g hg h2
  rw [ByteArray.toList_eq, ByteArray.toList_eq] at e2
  rw [← e2, cut_get hE (by omega), chars.byte_at s (K + 1) (by omega)] at n1 n2
  rw [byte_in (by omega : K + 1 < s.size)]
  refine ⟨fun hc => n1 ?_, fun hc => n2 ?_, hE⟩
  · apply UInt8.toNat_inj.1; show _ = 32; omega
  · apply UInt8.toNat_inj.1; show _ = 10; omega

/-- No gap between two: what then holds. -/
theorem gap_no {t u : Tk} (h : needsGap t u = false) (ht : 0 < t.s.size) (hu : 0 < u.s.size) (k2 : ¬ t.k = 2) (k1 : ¬ t.k = 1) (u1 : ¬ u.k = 1) :
    ¬ (chars.isWord (byteZ t.s ((t.s.size : Int) - 1)) = true ∧ chars.isWord (byteZ u.s 0) = true) ∧ (t.k = 3 → chars.isWord (byteZ u.s 0) = false ∧ byteZ u.s 0 ≠ 46) ∧ (t.k = 6 → ¬ u.k = 32) ∧ (30 ≤ t.k ∧ t.k ≤ 68 → (ops.opAt (t.s ++ u.s) 0).2 ≤ (t.s.size : Int)) := by
  unfold needsGap at h
  rw [if_neg (by omega)] at h
  by_cases c1 : chars.isWord (byteZ t.s ((t.s.size : Int) - 1)) = true ∧ chars.isWord (byteZ u.s 0) = true
  · rw [if_pos c1] at h; cases h
  rw [if_neg c1] at h
  refine ⟨c1, fun h3 => ?_, fun h6 => ?_, fun hop => ?_⟩
  · rw [if_pos h3] at h
    simpa using h
  · rw [if_neg (by omega), if_pos h6] at h
    simpa using h
  · rw [if_neg (by omega), if_neg (by omega), if_pos hop] at h
    simpa using h

theorem behind {s : ByteArray} {a r : List UInt8} {t : Tk} {l : List Tk} {prev : Int} (h : s.data.toList = a ++ (t.s.data.toList ++ sp (some t) l)) (ht : tok.tokOk t.k t.s = true) (hf : tksok.follow prev t.k = true) (hl : tksok.okFrom t.k l = true) :
    Behind s a.length (a.length + t.s.size) prev t.k := by
  obtain ⟨hh, hpos⟩ := tok_head ht
  obtain ⟨x1, x2⟩ := text_at h
  have her : t.k = 5 → operand.ends prev = false := by
    intro h5
    unfold tksok.follow at hf
    by_cases c1 : prev = 7 ∧ ¬ t.k = 32
    · rw [if_pos c1] at hf; cases hf
    rw [if_neg c1] at hf
    by_cases c2 : prev = 2 ∧ ¬ t.k = 1
    · rw [if_pos c2] at hf; cases hf
    rw [if_neg c2, if_pos h5] at hf
    simpa using hf
  have hdv : t.k = 58 ∨ t.k = 41 → operand.ends prev = true := by
    intro h5
    unfold tksok.follow at hf
    by_cases c1 : prev = 7 ∧ ¬ t.k = 32
    · rw [if_pos c1] at hf; cases hf
    rw [if_neg c1] at hf
    by_cases c2 : prev = 2 ∧ ¬ t.k = 1
    · rw [if_pos c2] at hf; cases hf
    rw [if_neg c2, if_neg (by omega), if_pos h5] at hf
    exact hf
  have hnb : byteZ s ((a.length + t.s.size : Nat) : Int) = headB (sp (some t) l) := by
    have h' : s.data.toList = (a ++ t.s.data.toList) ++ sp (some t) l := by rw [h, List.append_assoc]
    have := byte_head h'
    rw [List.length_append] at this
    exact this
  have hopsz : 30 ≤ t.k → ∀ g, g < 39 → ops.here s a.length (ops.signAt g) = true → ¬ (ops.signAt g).size ≤ t.s.size → (ops.signAt g).size = 2 ∧ t.s.size = 1 := by
    intro _ g hg _ hn
    have := ops.sign_bd g hg
    omega
  cases l with
  | nil =>
    have hm1 : byteZ s ((a.length + t.s.size : Nat) : Int) = -1 := hnb
    have hsz := head_size h
    have hx : t.s.data.toList.length = t.s.size := rfl
    rw [List.length_append] at hsz
    have h0 : (sp (some t) []).length = 0 := rfl
    refine ⟨fun _ => .inr hm1, fun _ => by rw [hm1]; decide, fun _ => by rw [hm1]; decide, fun _ => by rw [hm1]; decide, fun h7 => ?_, fun h3 g hg hh' => ?_, her, hdv⟩
    · rw [h7] at hl; exact absurd hl (by decide)
    · obtain ⟨_, y2, _⟩ := here_head (by omega) (ops.sign_bd g hg).1 hh'
      omega
  | cons u l =>
    have hl' : tok.tokOk u.k u.s = true ∧ tksok.follow t.k u.k = true := by
      unfold tksok.okFrom at hl
      simp only [Bool.and_eq_true] at hl
      exact ⟨hl.1, hl.2.1⟩
    obtain ⟨hu, hfu⟩ := hl'
    obtain ⟨hhu, hposu⟩ := tok_head hu
    have f7 : t.k = 7 → u.k = 32 := by
      intro h7
      unfold tksok.follow at hfu
      by_cases c : u.k = 32
      · exact c
      · rw [if_pos ⟨h7, c⟩] at hfu; cases hfu
    have f2 : t.k = 2 → u.k = 1 := by
      intro h7
      unfold tksok.follow at hfu
      by_cases c : u.k = 1
      · exact c
      · rw [if_neg (by omega), if_pos ⟨h7, c⟩] at hfu; cases hfu
    have h7gap : t.k = 7 → needsGap t u = false := by
      intro h7
      have hp := (paren_text (f7 h7 ▸ hu)).1
      unfold needsGap
      rw [if_neg (by have := f7 h7; omega), if_neg (by rw [hp]; simp; intro _; decide), if_neg (by omega), if_neg (by omega), if_neg (by omega)]
    have hsp : sp (some t) (u :: l) = gapB (some t) u ++ (u.s.data.toList ++ sp (some u) l) := rfl
    cases G : needsGap t u
    · have hgb : gapB (some t) u = [] := by show (if needsGap t u = true then [32] else []) = []; rw [G]; rfl
      rw [hsp, hgb, List.nil_append, head_text hposu] at hnb
      by_cases u1 : u.k = 1
      · have h10 := (newline_text (u1 ▸ hu)).1
        rw [h10] at hnb
        refine ⟨fun _ => .inl hnb, fun _ => by rw [hnb]; decide, fun _ => by rw [hnb]; decide, fun _ => by rw [hnb]; decide, fun h7 => ?_, fun h3 g hg hh' => ?_, her, hdv⟩
        · have := f7 h7; omega
        · by_cases hle : (ops.signAt g).size ≤ t.s.size
          · omega
          · obtain ⟨s2, s1⟩ := hopsz h3 g hg hh' hle
            have := (here_second (by omega) hg s2 hh').2.1
            rw [s1] at hnb
            exact absurd hnb this
      · refine ⟨fun h2 => absurd (f2 h2) u1, fun h3 => ?_, fun hw => ?_, fun h6 => ?_, fun h7 => ?_, fun h3 g hg hh' => ?_, her, hdv⟩
        · rw [hnb]
          exact (gap_no G hpos hposu (by omega) (by omega) u1).2.1 h3
        · have hlast := word_last ht hw
          have := (gap_no G hpos hposu (by omega) (by omega) u1).1
          rw [hnb]
          cases hz : chars.isWord (byteZ u.s 0)
          · rfl
          · exact absurd ⟨hlast, hz⟩ this
        · rw [hnb]
          intro h40
          exact (gap_no G hpos hposu (by omega) (by omega) u1).2.2.1 h6 ((head_first hhu hposu).2.2 h40)
        · rw [hnb]
          exact (paren_text (f7 h7 ▸ hu)).1
        · by_cases hle : (ops.signAt g).size ≤ t.s.size
          · omega
          · obtain ⟨s2, s1⟩ := hopsz h3 g hg hh' hle
            have k68 : t.k ≤ 68 := by
              cases hh with
              | op g hg h hx => omega
              | nl h => omega
              | cm h => omega
              | nm h => omega
              | st h => omega
              | er h => omega
              | wd h => omega
              | bi h => omega
              | kw h => omega
            have hop := (gap_no G hpos hposu (by omega) (by omega) u1).2.2.2 ⟨h3, k68⟩
            have hh2 : ops.here (t.s ++ u.s) (0 : Nat) (ops.signAt g) = true := by
              rw [ops.here_in (by omega)]
              rw [ops.here_in (by omega), h, List.drop_left] at hh'
              rw [hsp, hgb, List.nil_append, ← List.append_assoc] at hh'
              unfold Lib.hasPrefix at hh' ⊢
              rw [List.isPrefixOf_iff_prefix] at hh' ⊢
              rw [List.drop_zero, show (t.s ++ u.s).data.toList = t.s.data.toList ++ u.s.data.toList by simp]
              refine List.prefix_of_prefix_length_le hh' (List.prefix_append _ _) ?_
              have e1 : t.s.data.toList.length = t.s.size := rfl
              have e2 : u.s.data.toList.length = u.s.size := rfl
              have e3 : (ops.signAt g).data.toList.length = (ops.signAt g).size := rfl
              rw [List.length_append]
              omega
            have hm := opTo_max (t.s ++ u.s) (0 : Nat) 39 g hg hh2
            have hop' : (ops.opTo (t.s ++ u.s) (0 : Nat) 39).2 ≤ (t.s.size : Int) := hop
            omega
    · have hgb : gapB (some t) u = [32] := by show (if needsGap t u = true then [32] else []) = [32]; rw [G]; rfl
      rw [hsp, hgb] at hnb
      have hnb' : byteZ s ((a.length + t.s.size : Nat) : Int) = 32 := hnb
      refine ⟨fun h2 => ?_, fun _ => by rw [hnb']; decide, fun _ => by rw [hnb']; decide, fun _ => by rw [hnb']; decide, fun h7 => ?_, fun h3 g hg hh' => ?_, her, hdv⟩
      · unfold needsGap at G
        rw [if_pos (by omega)] at G
        cases G
      · rw [h7gap h7] at G; cases G
      · by_cases hle : (ops.signAt g).size ≤ t.s.size
        · omega
        · obtain ⟨s2, s1⟩ := hopsz h3 g hg hh' hle
          have := (here_second (by omega) hg s2 hh').1
          rw [s1] at hnb'
          exact absurd hnb' this

theorem gap_cases (p : Option Tk) (t : Tk) : gapB p t = [] ∨ gapB p t = [32] := by
  cases p with
  | none => exact .inl rfl
  | some q =>
    cases G : needsGap q t
    · left; show (if needsGap q t = true then [32] else []) = []; rw [G]; rfl
    · right; show (if needsGap q t = true then [32] else []) = [32]; rw [G]; rfl

theorem lex_sp (s : ByteArray) (l : List Tk) : ∀ (a : List UInt8) (p : Option Tk) (prev : Int), s.data.toList = a ++ sp p l → tksok.okFrom prev l = true → ∃ m, lexZ s a.length prev = .inr m ∧ m.map Tk.kt = l.map Tk.kt := by
  induction l with
  | nil =>
    intro a p prev h _
    have hsz := head_size h
    have h0 : (sp p []).length = 0 := rfl
    exact ⟨[], lex_end (by rw [gap_out (by omega)]; omega), rfl⟩
  | cons t l ih =>
    intro a p prev h hl
    have hl' := hl
    unfold tksok.okFrom at hl'
    simp only [Bool.and_eq_true] at hl'
    obtain ⟨ht, hf, hr⟩ := hl'
    obtain ⟨hh, hpos⟩ := tok_head ht
    have hs : s.data.toList = (a ++ gapB p t) ++ (t.s.data.toList ++ sp (some t) l) := by
      rw [h, List.append_assoc]; rfl
    obtain ⟨x1, x2⟩ := text_at hs
    have hfirst := head_first hh hpos
    have hbK := byte_head hs
    rw [head_text hpos] at hbK
    obtain ⟨K, hK⟩ : ∃ K, K = (a ++ gapB p t).length := ⟨_, rfl⟩
    have hB := behind (r := []) hs ht hf hr
    rw [← hK] at x1 x2 hbK hB
    have hstop : gapZ s K = K := gap_stop (by omega) (by rw [hbK]; exact hfirst.1) (by rw [hbK]; intro hc; exact hfirst.2.1 hc.1)
    have hg : gapZ s a.length = K := by
      rcases gap_cases p t with e | e
      · rw [e, List.append_nil] at hK
        rw [← hK]; exact hstop
      · rw [e, List.length_append] at hK
        have h32 : byteZ s (a.length : Int) = 32 := by
          have := byte_head h
          rw [this]
          show headB (gapB p t ++ _) = 32
          rw [e]; rfl
        rw [gap_blank (by omega) (by rw [h32]; decide)]
        rw [show a.length + 1 = K by rw [hK]; rfl]
        exact hstop
    have hk := kind_ext (s := s) (K := K) (E := K + t.s.size) (prev := prev) (k := t.k) x2 (by omega) (by rw [x1]; exact ht) hB
    have hstep := lex_step hg (by omega) hk (by omega)
    obtain ⟨m, hm, hmk⟩ := ih ((a ++ gapB p t) ++ t.s.data.toList) (some t) t.k (by rw [hs]; simp only [List.append_assoc]) hr
    have hlen : ((a ++ gapB p t) ++ t.s.data.toList).length = K + t.s.size := by rw [List.length_append, ← hK]; rfl
    rw [hlen] at hm
    refine ⟨⟨t.k, t.s, K⟩ :: m, ?_, ?_⟩
    · rw [hstep, hm, x1]; rfl
    · rw [List.map_cons, List.map_cons, hmk]; rfl

/-- RE-LEXING. -/
theorem lexF_spell {l : List Tk} (h : tksok.tokensOk l = true) (hs : ¬ 3000 < (spellB l).size) : (lexF (spellB l)).2 = (0, 0) ∧ (lexF (spellB l)).1.map Tk.kt = l.map Tk.kt := by
  unfold tksok.tokensOk at h
  rw [Bool.and_eq_true] at h
  have e : (spellB l).data.toList = [] ++ sp none l := by unfold spellB; simp
  obtain ⟨m, hm, hk⟩ := lex_sp (spellB l) l [] none 0 e h.2
  have hm' : lexZ (spellB l) 0 0 = .inr m := hm
  rw [lexF_ok hs hm']
  exact ⟨rfl, hk⟩
end Go.Proofs.YtlbloemmabjmoaaDoor.rlx
