/-
  A token's kind and end at its place in a longer text ('kind_ext'), given what stands behind it. No program's text is walked here.
-/
import Derived.Test.YtlbloemmabjmoaaDoorRelexMath
namespace Go.Proofs.YtlbloemmabjmoaaDoor.rlx
open Go.RowKit
open tk scan lex plc
set_option linter.unusedVariables false

theorem zero_byte {x : ByteArray} (h : 0 < x.size) : byteZ x 0 = (x[0].toNat : Int) := by
  have e := byte_in (s := x) (I := 0) h
  rw [show ((0 : Nat) : Int) = 0 from rfl] at e
  exact e
theorem eq_of_list {x y : ByteArray} (h : x.toList = y.toList) : x = y := by
  rw [ByteArray.toList_eq, ByteArray.toList_eq] at h
  exact ByteArray.ext (Array.toList_inj.1 h)
theorem num_head {x : ByteArray} (h : 0 ≤ numEnd x 0) : chars.isDigit (byteZ x 0) = true ∨ byteZ x 0 = 46 := by
  by_cases hd : chars.isDigit (byteZ x 0) = true
  · exact .inl hd
  · right
    have hr : runEnd chars.isDigit x 0 = 0 := run_stop (by simpa using hd)
    unfold numEnd at h
    rw [hr] at h
    by_cases h6 : byteZ x 0 = 46
    · exact h6
    · rw [if_neg h6, if_pos rfl] at h; omega
theorem quoted_head {x : ByteArray} {g : Int} (h : 0 ≤ scan.quoted x 0 g) : byteZ x 0 = g := by
  by_cases hb : byteZ x 0 = g
  · exact hb
  · rw [quoted_out hb] at h; omega

/-- What a right text begins with. -/
inductive Head (k : Int) (x : ByteArray) : Prop where
  | nl (h : k = 1) (hx : x = ⟨#[10]⟩)
  | cm (h : k = 2) (hc : tok.comment x = true) (hb : byteZ x 0 = 35)
  | nm (h : k = 3) (he : numEnd x 0 = (x.size : Int)) (hb : chars.isDigit (byteZ x 0) = true ∨ byteZ x 0 = 46)
  | st (h : k = 4) (he : strEnd x 0 = (x.size : Int)) (hb : byteZ x 0 = 34)
  | er (h : k = 5) (he : ereEnd x 0 = (x.size : Int)) (hb : byteZ x 0 = 47)
  | wd (h : k = 6 ∨ k = 7) (hs : chars.nameShape x = true) (hk : spell.keyword x = 0) (hn : toks.isBuiltin x = false)
  | bi (h : k = 8) (hs : chars.nameShape x = true) (hk : spell.keyword x = 0) (hn : toks.isBuiltin x = true)
  | kw (h : 10 ≤ k ∧ k ≤ 26) (hs : chars.nameShape x = true) (hk : spell.keyword x = k)
  | op (g : Nat) (hg : g < 39) (h : k = (g : Int) + 30) (hx : x = ops.signAt g)

theorem builtin_shape : ∀ b ∈ toks.builtins, chars.nameShape b = true ∧ spell.keyword b = 0 := by decide +kernel
theorem words_shape : ∀ K, K < 17 → chars.nameShape (toks.words.getD K ⟨#[]⟩) = true ∧ spell.keyword (toks.words.getD K ⟨#[]⟩) = (K : Int) + 10 := by decide +kernel
theorem hash_byte {x : ByteArray} (h : Lib.hasPrefix x.data.toList [35] = true) : 0 < x.size ∧ byteZ x 0 = 35 := by
  by_cases h0 : x.size = 0
  · rw [tok.hash_empty h0] at h; cases h
  · have hp : 0 < x.size := by omega
    rw [tok.hash_head hp] at h
    exact ⟨hp, by rw [zero_byte hp]; exact of_decide_eq_true h⟩
theorem tok_head {k : Int} {x : ByteArray} (h : tok.tokOk k x = true) : Head k x ∧ 0 < x.size := by
  unfold tok.tokOk at h
  by_cases h2 : k = 2
  · rw [if_pos h2] at h
    have hc := h
    unfold tok.comment at h
    rw [Bool.and_eq_true] at h
    obtain ⟨p1, p2⟩ := hash_byte h.1
    exact ⟨.cm h2 hc p2, p1⟩
  rw [if_neg h2] at h
  by_cases h3 : k = 3
  · rw [if_pos h3, beq_iff_eq] at h
    have hh := num_head (x := x) (by omega)
    refine ⟨.nm h3 h hh, ?_⟩
    by_cases h0 : x.size = 0
    · rw [byte_out (.inr (by omega))] at hh
      exact absurd hh (by decide)
    · omega
  rw [if_neg h3] at h
  by_cases h4 : k = 4
  · rw [if_pos h4, beq_iff_eq] at h
    have hh := quoted_head (x := x) (g := 34) (by unfold strEnd at h; omega)
    have hr := byte_range (s := x) (i := 0) (by omega)
    exact ⟨.st h4 h hh, by omega⟩
  rw [if_neg h4] at h
  by_cases h5 : k = 5
  · rw [if_pos h5, beq_iff_eq] at h
    have hq : 0 ≤ scan.quoted x 0 47 := by
      unfold ereEnd at h
      split at h
      · omega
      · omega
    have hh := quoted_head hq
    have hr := byte_range (s := x) (i := 0) (by omega)
    exact ⟨.er h5 h hh, by omega⟩
  rw [if_neg h5] at h
  by_cases h6 : k = 6 ∨ k = 7
  · rw [if_pos h6] at h
    unfold spell.nameOk at h
    simp only [Bool.and_eq_true, beq_iff_eq, Bool.not_eq_true'] at h
    exact ⟨.wd h6 h.1 h.2.1 h.2.2, (shape_run h.1).2.2⟩
  rw [if_neg h6] at h
  by_cases h8 : k = 8
  · rw [if_pos h8] at h
    have hb := h
    unfold toks.isBuiltin toks.isIn at h
    rw [List.any_eq_true] at h
    obtain ⟨b, hm, he⟩ := h
    obtain rfl : b = x := toks.same_iff.1 he
    obtain ⟨w1, w2⟩ := builtin_shape b hm
    exact ⟨.bi h8 w1 w2 hb, (shape_run w1).2.2⟩
  rw [if_neg h8] at h
  simp only [Bool.and_eq_true, Bool.not_eq_true', beq_iff_eq] at h
  obtain ⟨e1, e2⟩ := h
  have hx := eq_of_list e2
  have hpos : 0 < x.size := by
    by_cases h0 : x.size = 0
    · obtain rfl : x = ⟨#[]⟩ := ByteArray.ext (Array.size_eq_zero_iff.1 h0)
      rw [ByteArray.toList_eq] at e1
      cases e1
    · omega
  refine ⟨?_, hpos⟩
  by_cases k1 : k = 1
  · subst k1
    exact .nl rfl (hx.trans rfl)
  by_cases k2 : 10 ≤ k ∧ k ≤ 26
  · obtain ⟨K, rfl⟩ : ∃ K : Nat, k = (K : Int) + 10 := ⟨(k - 10).toNat, by omega⟩
    rw [spell.spell_word K (by omega)] at hx
    obtain ⟨w1, w2⟩ := words_shape K (by omega)
    exact .kw k2 (by rw [hx]; exact w1) (by rw [hx]; exact w2)
  by_cases k3 : 30 ≤ k ∧ k ≤ 68
  · obtain ⟨K, rfl⟩ : ∃ K : Nat, k = (K : Int) + 30 := ⟨(k - 30).toNat, by omega⟩
    rw [spell.spell_sign K (by omega)] at hx
    exact .op K (by omega) rfl hx
  · rw [spell.spell_none k k1 k2 k3] at hx
    rw [hx] at hpos
    exact absurd hpos (by decide)

/-! ### Operators -/
theorem opTo_max (s : ByteArray) (i : Int) : ∀ k, ∀ g, g < k → ops.here s i (ops.signAt g) = true → ((ops.signAt g).size : Int) ≤ (ops.opTo s i k).2
  | 0, g, h, _ => by omega
  | k + 1, g, h, hh => by
    rw [ops.opTo]
    by_cases hc : ops.here s i (ops.signAt k) = true ∧ (ops.opTo s i k).2 < ((ops.signAt k).size : Int)
    · rw [if_pos hc]
      by_cases hg : g = k
      · subst hg; exact Int.le_refl _
      · have := opTo_max s i k g (by omega) hh
        simp only
        omega
    · rw [if_neg hc]
      by_cases hg : g = k
      · subst hg
        by_cases hl : (ops.opTo s i g).2 < ((ops.signAt g).size : Int)
        · exact absurd ⟨hh, hl⟩ hc
        · omega
      · exact opTo_max s i k g (by omega) hh
theorem sign_op : ∀ K, K < 39 → ops.opAt (ops.signAt K) 0 = ((K : Int) + 30, ((ops.signAt K).size : Int)) := by decide +kernel
theorem sign_inj {g g' : Nat} (hg : g < 39) (hg' : g' < 39) (h : ops.signAt g = ops.signAt g') : g = g' := by
  have h1 := sign_op g hg
  rw [h, sign_op g' hg'] at h1
  injection h1 with h1 _
  omega
def oddB (b : Int) : Bool := b != 10 && (b != 35 && (!chars.isDigit b && (b != 46 && (b != 34 && (!chars.isLetter b && (b != 32 && (b != 9 && b != 92)))))))
theorem sign_first : ∀ K, K < 39 → oddB (((ops.signAt K).data.toList.getD 0 0).toNat : Int) = true := by decide +kernel
theorem sign_slash : ∀ K, K < 39 → (ops.signAt K).data.toList.getD 0 0 = 47 → K = 28 ∨ K = 11 := by decide +kernel
theorem odd_facts {b : Int} (h : oddB b = true) : b ≠ 10 ∧ b ≠ 35 ∧ chars.isDigit b = false ∧ b ≠ 46 ∧ b ≠ 34 ∧ chars.isLetter b = false ∧ b ≠ 32 ∧ b ≠ 9 ∧ b ≠ 92 := by
  unfold oddB at h
  simp only [Bool.and_eq_true, bne_iff_ne, ne_eq, Bool.not_eq_true'] at h
  obtain ⟨a1, a2, a3, a4, a5, a6, a7, a8, a9⟩ := h
  exact ⟨a1, a2, a3, a4, a5, a6, a7, a8, a9⟩
theorem letter_facts {b : Int} (h : chars.isLetter b = true) : b ≠ 10 ∧ b ≠ 35 ∧ chars.isDigit b = false ∧ b ≠ 46 ∧ b ≠ 34 ∧ b ≠ 47 := by
  unfold chars.isLetter chars.inR at h
  unfold chars.isDigit chars.inR
  simp only [Bool.or_eq_true, Bool.and_eq_true, decide_eq_true_eq, beq_iff_eq] at h
  simp only [Bool.and_eq_false_iff, decide_eq_false_iff_not]
  omega
theorem digit_facts {b : Int} (h : chars.isDigit b = true ∨ b = 46) : b ≠ 10 ∧ b ≠ 35 := by
  unfold chars.isDigit chars.inR at h
  simp only [Bool.and_eq_true, decide_eq_true_eq] at h
  omega

/-- What may stand behind. -/
structure Behind (s : ByteArray) (K E : Nat) (prev k : Int) : Prop where
  cm : k = 2 → byteZ s E = 10 ∨ byteZ s E = -1
  nm : k = 3 → chars.isWord (byteZ s E) = false ∧ byteZ s E ≠ 46
  wd : k = 6 ∨ k = 7 ∨ k = 8 ∨ (10 ≤ k ∧ k ≤ 26) → chars.isWord (byteZ s E) = false
  n6 : k = 6 → byteZ s E ≠ 40
  n7 : k = 7 → byteZ s E = 40
  op : 30 ≤ k → ∀ g, g < 39 → ops.here s K (ops.signAt g) = true → (ops.signAt g).size ≤ E - K
  er : k = 5 → operand.ends prev = false
  dv : k = 58 ∨ k = 41 → operand.ends prev = true

theorem kind_ext {s : ByteArray} {K E : Nat} {prev k : Int} (hE : E ≤ s.size) (hK : K < E) (ht : tok.tokOk k (s.extract K E) = true) (hb : Behind s K E prev k) : kindAt s K prev = (k, (E : Int)) := by
  obtain ⟨hh, hpos⟩ := tok_head ht
  have hsz := cut_size (s := s) (K := K) hE
  have b0 : byteZ s K = byteZ (s.extract K E) 0 := by
    have := cut_byte hE (Nat.le_of_lt hK) 0 (by omega) (by omega)
    rw [this, show (K : Int) + 0 = K by omega]
  have hle := Nat.le_of_lt hK
  cases hh with
  | nl h hx =>
    have hb0 : byteZ s K = 10 := by rw [b0, hx]; rfl
    have : (s.extract K E).size = 1 := by rw [hx]; rfl
    unfold kindAt
    rw [if_pos hb0, h, show (K : Int) + 1 = E by omega]
  | cm h hc h35 =>
    have hb0 : byteZ s K = 35 := by rw [b0, h35]
    have hnb := hb.cm h
    have hln : line (byteZ s E) = false := by rcases hnb with e | e <;> rw [e] <;> decide
    have rr := run_ext cls_line hE hle hln 0 (by omega) (by omega)
    rw [show (K : Int) + 0 = K by omega] at rr
    have q1 := run_le line (s.extract K E) 0 (by omega)
    have q0 := run_ge line (s.extract K E) 0
    have qo := run_over cls_line (s.extract K E) 0
    have hrun : runEnd line (s.extract K E) 0 = (E : Int) - K := by
      obtain ⟨R, hR⟩ : ∃ R : Nat, runEnd line (s.extract K E) 0 = R := ⟨(runEnd line (s.extract K E) 0).toNat, by omega⟩
      rw [hR] at q1 qo ⊢
      by_cases hl : R < (s.extract K E).size
      · rw [byte_in hl] at qo
        have h10 : ((s.extract K E)[R].toNat : Int) = 10 := by
          unfold line at qo
          simp at qo
          exact qo
        unfold tok.comment at hc
        rw [tok.free_found hl h10] at hc
        simp at hc
      · omega
    unfold kindAt cmtEnd
    rw [if_neg (by rw [hb0]; decide), if_pos hb0, h, rr, hrun, show (K : Int) + ((E : Int) - K) = E by omega]
  | nm h he hd =>
    rw [← b0] at hd
    obtain ⟨n1, n2⟩ := digit_facts hd
    obtain ⟨m1, m2⟩ := hb.nm h
    unfold kindAt
    rw [if_neg n1, if_neg n2, if_pos hd, h, num_ext hE hK m1 m2 he]
  | st h he h34 =>
    have hb0 : byteZ s K = 34 := by rw [b0, h34]
    have hq := (quoted_ext (g := 34) (by decide) hE hle (by unfold strEnd at he; omega)).1
    unfold strEnd at he
    unfold kindAt strEnd
    rw [if_neg (by rw [hb0]; decide), if_neg (by rw [hb0]; decide), if_neg (by rw [hb0]; decide), if_pos hb0, h, hq, he, hsz, show (K : Int) + ((E - K : Nat) : Int) = E by omega]
  | er h he h47 =>
    have hb0 : byteZ s K = 47 := by rw [b0, h47]
    have hne : ¬ scan.quoted (s.extract K E) 0 47 = 0 + 2 := fun hq => by unfold ereEnd at he; rw [if_pos hq] at he; omega
    have he' : scan.quoted (s.extract K E) 0 47 = ((s.extract K E).size : Int) := by unfold ereEnd at he; rw [if_neg hne] at he; exact he
    have hq := (quoted_ext (g := 47) (by decide) hE hle (by omega)).1
    have hend : ereEnd s K = E := by
      unfold ereEnd
      rw [hq, if_neg (by omega), he', hsz]
      omega
    unfold kindAt
    rw [if_neg (by rw [hb0]; decide), if_neg (by rw [hb0]; decide), if_neg (by rw [hb0]; decide), if_neg (by rw [hb0]; decide), if_pos ⟨hb0, hb.er h⟩, h, hend]
  | wd h hs hk hn =>
    obtain ⟨w1, w2⟩ := word_ext hE hle (hb.wd (by omega)) hs
    obtain ⟨n1, n2, n3, n4, n5, n6⟩ := letter_facts w2
    unfold kindAt wordAt
    rw [if_neg n1, if_neg n2, if_neg (by rw [n3]; simp [n4]), if_neg n5, if_neg (fun hc => n6 hc.1), if_pos w2, w1, show ((E : Int)).toNat = E by omega, if_pos hs, if_pos hk, if_neg (by rw [hn]; decide)]
    rcases h with h | h
    · rw [if_neg (hb.n6 h), h]
    · rw [if_pos (hb.n7 h), h]
  | bi h hs hk hn =>
    obtain ⟨w1, w2⟩ := word_ext hE hle (hb.wd (by omega)) hs
    obtain ⟨n1, n2, n3, n4, n5, n6⟩ := letter_facts w2
    unfold kindAt wordAt
    rw [if_neg n1, if_neg n2, if_neg (by rw [n3]; simp [n4]), if_neg n5, if_neg (fun hc => n6 hc.1), if_pos w2, w1, show ((E : Int)).toNat = E by omega, if_pos hs, if_pos hk, if_pos hn, h]
  | kw h hs hk =>
    obtain ⟨w1, w2⟩ := word_ext hE hle (hb.wd (by omega)) hs
    obtain ⟨n1, n2, n3, n4, n5, n6⟩ := letter_facts w2
    unfold kindAt wordAt
    rw [if_neg n1, if_neg n2, if_neg (by rw [n3]; simp [n4]), if_neg n5, if_neg (fun hc => n6 hc.1), if_pos w2, w1, show ((E : Int)).toNat = E by omega, if_pos hs, if_neg (by rw [hk]; omega), hk]
  | op g hg h hx =>
    have hbd := ops.sign_bd g hg
    have hgs : (ops.signAt g).size = E - K := by rw [← hx, hsz]
    have hhere : ops.here s K (ops.signAt g) = true := by
      rw [ops.here_cut (by omega), hgs, show K + (E - K) = E by omega, hx]
      simp
      omega
    obtain ⟨z1, z2, z3⟩ := here_head (by omega) hbd.1 hhere
    have hf := sign_first g hg
    rw [← z1] at hf
    obtain ⟨n1, n2, n3, n4, n5, n6, -, -, -⟩ := odd_facts hf
    have hop : ops.opAt s K = (k, ((E - K : Nat) : Int)) := by
      have hm := opTo_max s K 39 g hg hhere
      rcases opTo_sign s K 39 (Nat.le_refl _) with h0 | ⟨g', hg', he, hh'⟩
      · rw [h0] at hm
        simp only at hm
        omega
      · rw [he] at hm
        simp only at hm
        have h2 := hb.op (by omega) g' hg' hh'
        have hbd' := ops.sign_bd g' hg'
        obtain ⟨y1, y2, y3⟩ := here_head (by omega) hbd'.1 hh'
        have hss : (ops.signAt g').size = (ops.signAt g).size := by omega
        rw [hss, z3] at y3
        obtain rfl := sign_inj hg hg' (eq_of_list y3)
        show ops.opTo s K 39 = _
        rw [he, h, hgs]
    unfold kindAt
    rw [if_neg n1, if_neg n2, if_neg (by rw [n3]; simp [n4]), if_neg n5, if_neg ?_, if_neg (by rw [n6]; decide), hop]
    · simp only
      rw [show (K : Int) + ((E - K : Nat) : Int) = E by omega]
    · rintro ⟨c1, c2⟩
      rw [z1] at c1
      have hd : (ops.signAt g).data.toList.getD 0 0 = 47 := by apply UInt8.toNat_inj.1; show _ = 47; omega
      have := hb.dv (by rcases sign_slash g hg hd with e | e <;> omega)
      rw [this] at c2
      cases c2
end Go.Proofs.YtlbloemmabjmoaaDoor.rlx
