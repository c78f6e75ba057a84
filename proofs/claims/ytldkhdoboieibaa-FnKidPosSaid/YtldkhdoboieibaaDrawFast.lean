/-
  The sizes of drawn trees behind the end of the code: a reckoning over plain numbers; the loop that draws a small expression ends.
-/
import Derived.Test.YtldkhdoboieibaaDrawStep
import Derived.Test.YtldkhdoboieibaaLcg
namespace Go.Proofs.Ytldkhdoboieibaa.draw
open nd lcg
set_option linter.unusedVariables false

def xF (v : Nat) : Nat := ((v / 8589934592) ^^^ (v / 35184372088832)) % 256
def sum1 : List Nat → Nat
  | [] => 1
  | x :: l => x + sum1 l
/-- Behind the end of the code: the sequence alone, of trees the size alone. -/
def fastF (f x : Nat → Nat) : Gen Nat Nat := ⟨fun n u => (x (f u) % n, f u), fun _ l => sum1 l⟩
section
variable {f x : Nat → Nat}

/-- v is at most k steps behind u. -/
def Le (f : Nat → Nat) (u v k : Nat) : Prop := ∃ b, b ≤ k ∧ v = it f b u
theorem Le.refl (u : Nat) : Le f u u 0 := ⟨0, Nat.le_refl _, rfl⟩
theorem Le.trans {u v w a b : Nat} (h1 : Le f u v a) (h2 : Le f v w b) : Le f u w (a + b) := by
  obtain ⟨i, hi, rfl⟩ := h1
  obtain ⟨j, hj, rfl⟩ := h2
  exact ⟨i + j, by omega, (it_add f i j u).symm⟩
theorem Le.mono {u v a b : Nat} (h : Le f u v a) (hab : a ≤ b) : Le f u v b := by
  obtain ⟨x, hx, e⟩ := h
  exact ⟨x, by omega, e⟩
theorem Le.one (n u : Nat) : Le f u ((fastF f x).bl n u).2 1 := ⟨1, Nat.le_refl _, rfl⟩
theorem Le.then {u v n a : Nat} (h : Le f ((fastF f x).bl n u).2 v a) : Le f u v (1 + a) := (Le.one (x := x) n u).trans h
def Adv (f : Nat → Nat) (k : Nat) (E : Nat → Nat × Nat) : Prop := ∀ u, Le f u (E u).2 k
theorem adv_pk (L : List ByteArray) (u : Nat) : Le f u (pkG (fastF f x) L u).2 1 := Le.one (x := x) L.length u
theorem adv_pi (L : List Int) (u : Nat) : Le f u (piG (fastF f x) L u).2 1 := Le.one (x := x) L.length u
theorem adv_word : Adv f 1 (wordG (fastF f x)) := fun u => Le.one (x := x) l2WordL.length u
theorem adv_leaf : Adv f 3 (leafG (fastF f x)) := by
  intro u
  unfold leafG
  dsimp only
  refine Le.mono (Le.then (x := x) (n := 7) (a := 2) ?_) (by omega)
  generalize ((fastF f x).bl 7 u).1 = b
  rcases b with _ | _ | _ | b
  · exact (adv_pk (x := x) l4NumL _).mono (by omega)
  · exact (adv_pk (x := x) l4StrL _).mono (by omega)
  · show Le f _ (if ((fastF f x).bl 2 ((fastF f x).bl 7 u).2).1 = 0 then _ else _ : Nat × Nat).2 _
    split
    · exact Le.then (x := x) (n := 2) (adv_pk (x := x) l4EreL _)
    · exact Le.then (x := x) (n := 2) (adv_word (x := x) _)
  · exact (adv_word (x := x) _).mono (by omega)
theorem adv_times {k : Nat} {E : Nat → Nat × Nat} (h : Adv f k E) : ∀ n u, Le f u (timesG E n u).2 (n * k) := by
  intro n
  induction n with
  | zero => intro u; exact (Le.refl u).mono (Nat.zero_le _)
  | succ n ih => intro u; exact ((h u).trans (ih _)).mono (by rw [Nat.succ_mul]; omega)
theorem fast_lt (n u : Nat) (hn : 0 < n) : ((fastF f x).bl n u).1 < n := Nat.mod_lt _ hn
theorem adv_list {k : Nat} {E : Nat → Nat × Nat} (h : Adv f k E) (least most : Nat) (hl : least ≤ most) (u : Nat) : Le f u (listG (fastF f x) E least most u).2 (1 + most * k) := by
  unfold listG
  refine Le.then (x := x) (n := most - least + 1) ((adv_times h _ _).mono (Nat.mul_le_mul_right k ?_))
  have := fast_lt (f := f) (x := x) (most - least + 1) u (by omega)
  omega
theorem adv_lval {k : Nat} {E1 E2 : Nat → Nat × Nat} (h1 : Adv f k E1) (h2 : Adv f k E2) : Adv f (2 + k) (lvalG (fastF f x) E1 E2) := by
  intro u
  unfold lvalG
  dsimp only
  refine Le.mono (Le.then (x := x) (n := 4) (a := 1 + k) ?_) (by omega)
  generalize ((fastF f x).bl 4 u).1 = b
  rcases b with _ | _ | b
  · exact (adv_pk (x := x) l2WordL _).trans (h1 _)
  · exact (h2 _).mono (by omega)
  · exact (adv_word (x := x) _).mono (by omega)
theorem adv_step {k : Nat} {E1 E2 E3 : Nat → Nat × Nat} (h1 : Adv f k E1) (h2 : Adv f k E2) (h3 : Adv f k E3) : Adv f (5 + 3 * k) (stepG (fastF f x) E1 E2 E3) := by
  intro u
  unfold stepG
  dsimp only
  refine Le.mono (Le.then (x := x) (n := 2) (Le.then (x := x) (n := 16) (a := 3 + 3 * k) ?_)) (by omega)
  generalize ((fastF f x).bl 2 u).1 = z
  generalize ((fastF f x).bl 16 ((fastF f x).bl 2 u).2).1 = b
  rcases b with _ | _ | _ | _ | _ | _ | _ | _ | _ | _ | _ | _ | b
  · exact (adv_leaf (x := x) _).mono (by omega)
  · exact (adv_lval (x := x) h1 h2 _).mono (by omega)
  · exact (h1 _).mono (by omega)
  · exact ((adv_pk (x := x) l2WordL _).trans (adv_list (x := x) h1 0 3 (by omega) _)).mono (by omega)
  · exact ((adv_pk (x := x) l7FnL _).trans (adv_list (x := x) h2 0 3 (by omega) _)).mono (by omega)
  · exact (adv_lval (x := x) h2 h3 _).mono (by omega)
  · exact (adv_lval (x := x) h2 h3 _).mono (by omega)
  · exact ((adv_pi (x := x) [56, 55, 61] _).trans (h1 _)).mono (by omega)
  · exact ((adv_pi (x := x) [56, 55, 61] _).trans (h1 _)).mono (by omega)
  · exact ((adv_pk (x := x) l2WordL _).trans (adv_list (x := x) h1 1 2 (by omega) _)).mono (by omega)
  · exact (((h1 _).trans (h1 _)).trans (h1 _)).mono (by omega)
  · exact (((adv_pi (x := x) [54, 38, 43] _).trans (adv_lval (x := x) h2 h3 _)).trans (h1 _)).mono (by omega)
  · exact (((adv_pi (x := x) l7BinL _).trans (h1 _)).trans (h1 _)).mono (by omega)
def kE : Nat → Nat
  | 0 => 3
  | d + 1 => 5 + 3 * kE d
theorem kE_up (d : Nat) : kE d ≤ kE (d + 1) := by simp only [kE]; omega
theorem Adv.mono {a b : Nat} {E : Nat → Nat × Nat} (h : Adv f a E) (hab : a ≤ b) : Adv f b E := fun u => (h u).mono hab
theorem adv_exprs : ∀ d, Adv f (kE d) (exprs (fastF f x) d).1 ∧ Adv f (kE d) (exprs (fastF f x) d).2.1 ∧ Adv f (kE d) (exprs (fastF f x) d).2.2 := by
  intro d
  induction d with
  | zero => exact ⟨adv_leaf (x := x), adv_leaf (x := x), adv_leaf (x := x)⟩
  | succ d ih => exact ⟨adv_step ih.1 ih.2.1 ih.2.2, ih.1.mono (kE_up d), ih.2.1.mono (kE_up d)⟩
theorem adv_expr (d : Nat) : Adv f (kE d) (exprG (fastF f x) d) := (adv_exprs d).1
theorem kE_le : ∀ {d e : Nat}, d ≤ e → kE d ≤ kE e := by
  intro d e h
  induction h with
  | refl => exact Nat.le_refl _
  | step _ ih => exact Nat.le_trans ih (kE_up _)
theorem adv_some (u : Nat) : ∃ b, 0 < b ∧ b ≤ 444 ∧ (someG (fastF f x) u).2 = it f b u := by
  unfold someG
  have hlt := fast_lt (f := f) (x := x) 4 u (by omega)
  obtain ⟨b, hb, e⟩ := adv_expr (1 + ((fastF f x).bl 4 u).1) ((fastF f x).bl 4 u).2
  have hk : kE (1 + ((fastF f x).bl 4 u).1) ≤ kE 4 := kE_le (by omega)
  have h4 : kE 4 = 443 := rfl
  refine ⟨1 + b, by omega, by omega, ?_⟩
  rw [e, it_add]
  rfl
theorem adv_maybe {k : Nat} {E : Nat → Nat × Nat} (h : Adv f k E) : Adv f (1 + k) (maybeG (fastF f x) E) := by
  intro u
  unfold maybeG
  refine Le.then (x := x) (n := 3) ?_
  split
  · exact (Le.refl _).mono (Nat.zero_le _)
  · exact h _
theorem adv_simple {k m : Nat} {E0 E1 : Nat → Nat × Nat} (h0 : Adv f k E0) (h1 : Adv f m E1) : Adv f (5 + 3 * k + 2 * m) (simpleG (fastF f x) E0 E1) := by
  intro u
  unfold simpleG
  dsimp only
  refine Le.mono (Le.then (x := x) (n := 9) (a := 4 + 3 * k + 2 * m) ?_) (by omega)
  have pr : ∀ y, Le f y
      (if ((fastF f x).bl 3 (listG (fastF f x) E0 ((fastF f x).bl 2 y).1 3 ((fastF f x).bl 2 y).2).2).1 = 0 then
        ((fastF f x).nd ⟨21, (((fastF f x).bl 2 y).1 : Int), ⟨#[]⟩, (pkG (fastF f x) l7OutL ((fastF f x).bl 3 (listG (fastF f x) E0 ((fastF f x).bl 2 y).1 3 ((fastF f x).bl 2 y).2).2).2).1, []⟩ ((listG (fastF f x) E0 ((fastF f x).bl 2 y).1 3 ((fastF f x).bl 2 y).2).1 ++ [(E1 (pkG (fastF f x) l7OutL ((fastF f x).bl 3 (listG (fastF f x) E0 ((fastF f x).bl 2 y).1 3 ((fastF f x).bl 2 y).2).2).2).2).1]), (E1 (pkG (fastF f x) l7OutL ((fastF f x).bl 3 (listG (fastF f x) E0 ((fastF f x).bl 2 y).1 3 ((fastF f x).bl 2 y).2).2).2).2).2)
       else ((fastF f x).nd (nodeO 21 (((fastF f x).bl 2 y).1 : Int)) (listG (fastF f x) E0 ((fastF f x).bl 2 y).1 3 ((fastF f x).bl 2 y).2).1, ((fastF f x).bl 3 (listG (fastF f x) E0 ((fastF f x).bl 2 y).1 3 ((fastF f x).bl 2 y).2).2).2)).2 (4 + 3 * k + m) := by
    intro y
    have hlt := fast_lt (f := f) (x := x) 2 y (by omega)
    have hl := (Le.one (x := x) 2 y).trans (adv_list (x := x) h0 ((fastF f x).bl 2 y).1 3 (by omega) ((fastF f x).bl 2 y).2)
    have hl2 := hl.trans (Le.one (x := x) 3 _)
    split
    · exact ((hl2.trans (adv_pk (x := x) l7OutL _)).trans (h1 _)).mono (by omega)
    · exact hl2.mono (by omega)
  generalize ((fastF f x).bl 9 u).1 = b
  rcases b with _ | _ | _ | _ | _ | _ | b
  · exact (pr _).mono (by omega)
  · exact (pr _).mono (by omega)
  · exact (adv_pi (x := x) [22, 25, 26] _).mono (by omega)
  · exact ((adv_pi (x := x) [23, 24] _).trans (adv_list (x := x) h0 0 1 (by omega) _)).mono (by omega)
  · exact ((adv_pk (x := x) l2WordL _).trans (adv_list (x := x) h1 0 2 (by omega) _)).mono (by omega)
  · refine Le.mono (Le.then (x := x) (n := 2) (a := 1 + k) ?_) (by omega)
    show Le f _ (if ((fastF f x).bl 2 ((fastF f x).bl 9 u).2).1 = 0 then _ else _ : Nat × Nat).2 _
    split
    · exact (adv_pk (x := x) l7NoteL _).mono (by omega)
    · exact (h0 _).mono (by omega)
  · exact (h0 _).mono (by omega)
theorem adv_block {k : Nat} {S : Nat → Nat × Nat} (h : Adv f k S) : Adv f (1 + 2 * k) (blockG (fastF f x) S) := by
  intro u
  unfold blockG
  have hlt := fast_lt (f := f) (x := x) 3 u (by omega)
  exact Le.then (x := x) (n := 3) ((adv_times h _ _).mono (Nat.mul_le_mul_right k (by omega)))
def kC (a b k : Nat) : Nat := 1 + max (a + 2 * k) (3 + 2 * a + b + k)
theorem adv_comp {a b k : Nat} {A1 A2 B : Nat → Nat × Nat} (h1 : Adv f a A1) (h2 : Adv f b A2) (hb : Adv f k B) : Adv f (kC a b k) (compG (fastF f x) A1 A2 B) := by
  intro u
  unfold compG kC
  dsimp only
  refine Le.then (x := x) (n := 6) ?_
  generalize ((fastF f x).bl 6 u).1 = c
  rcases c with _ | _ | _ | _ | _ | c
  · exact ((h1 _).trans (hb _)).mono (by omega)
  · exact (((h1 _).trans (hb _)).trans (hb _)).mono (by omega)
  · exact ((h1 _).trans (hb _)).mono (by omega)
  · exact ((hb _).trans (h1 _)).mono (by omega)
  · exact ((((adv_maybe (x := x) h2 _).trans (adv_maybe (x := x) h1 _)).trans (adv_maybe (x := x) h1 _)).trans (hb _)).mono (by omega)
  · refine Le.mono (Le.then (x := x) (n := 2) (a := 2 + k) ?_) (by omega)
    show Le f _ (if ((fastF f x).bl 2 ((fastF f x).bl 6 u).2).1 = 0 then _ else _ : Nat × Nat).2 _
    split
    · exact (hb _).mono (by omega)
    · exact (((adv_pk (x := x) l2WordL _).trans (adv_pk (x := x) l2WordL _)).trans (hb _)).mono (by omega)
def kS : Nat → Nat
  | 0 => 20
  | d + 1 => 1 + max (kC 14 47 (1 + 2 * kS d)) (5 + 3 * kE (min (d + 1) 2) + 2 * kE (min (d + 1) 2 - 1))
theorem adv_stmt : ∀ d, Adv f (kS d) (stmtG (fastF f x) d) := by
  intro d
  induction d with
  | zero => exact adv_simple (adv_expr 0) (adv_expr 0)
  | succ d ih =>
    intro u
    unfold stmtG kS
    refine Le.then (x := x) (n := 3) ?_
    split
    · exact (adv_comp (x := x) (adv_expr 1) (adv_expr 2) (adv_block (x := x) ih) _).mono (Nat.le_max_left _ _)
    · exact (adv_simple (x := x) (adv_expr _) (adv_expr _) _).mono (Nat.le_max_right _ _)
theorem adv_item : Adv f 1060 (itemG (fastF f x)) := by
  intro u
  unfold itemG
  dsimp only
  have hlt := fast_lt (f := f) (x := x) 2 u (by omega)
  refine Le.mono (Le.then (x := x) (n := 2) (Le.then (x := x) (n := 8) (a := 1058) ?_)) (by omega)
  have k0 : kE 0 = 3 := rfl
  have k1 : kE 1 = 14 := rfl
  have k2 : kE 2 = 47 := rfl
  have s1 : kS 1 = 121 := rfl
  have s2 : kS 2 = 502 := rfl
  have hE : ∀ y, Le f y (exprG (fastF f x) (1 + ((fastF f x).bl 2 u).1) y).2 47 := fun y => (adv_expr _ y).mono (by
    rcases (show ((fastF f x).bl 2 u).1 = 0 ∨ ((fastF f x).bl 2 u).1 = 1 by omega) with e | e <;> rw [e] <;> decide)
  have hB : ∀ y, Le f y (blockG (fastF f x) (stmtG (fastF f x) (1 + ((fastF f x).bl 2 u).1)) y).2 1005 := fun y => (adv_block (x := x) (adv_stmt _) y).mono (by
    rcases (show ((fastF f x).bl 2 u).1 = 0 ∨ ((fastF f x).bl 2 u).1 = 1 by omega) with e | e <;> rw [e] <;> decide)
  have h1 : ∀ y, Le f y (exprG (fastF f x) 1 y).2 14 := fun y => adv_expr 1 y
  generalize 1 + ((fastF f x).bl 2 u).1 = d at hE hB ⊢
  generalize ((fastF f x).bl 8 ((fastF f x).bl 2 u).2).1 = b
  rcases b with _ | _ | _ | _ | _ | _ | _ | b
  · exact ((Le.one (x := x) 2 _).trans (hB _)).mono (by omega)
  · exact (hE _).mono (by omega)
  · exact (hB _).mono (by omega)
  · exact ((h1 _).trans (h1 _)).mono (by omega)
  · exact (((h1 _).trans (h1 _)).trans (hB _)).mono (by omega)
  · have hn := fast_lt (f := f) (x := x) 3 ((fastF f x).bl 8 ((fastF f x).bl 2 u).2).2 (by omega)
    have hw := ((Le.one (f := f) (x := x) 3 ((fastF f x).bl 8 ((fastF f x).bl 2 u).2).2).trans (adv_times (adv_word (f := f) (x := x)) ((fastF f x).bl 3 ((fastF f x).bl 8 ((fastF f x).bl 2 u).2).2).1 _)).mono (show _ ≤ 3 by omega)
    exact ((hw.trans (adv_pk (x := x) l7NameL _)).trans (hB _)).mono (by omega)
  · exact (adv_pk (x := x) l7TopL _).mono (by omega)
  · exact ((hE _).trans (hB _)).mono (by omega)
theorem adv_prog (u : Nat) : ∃ b, 0 < b ∧ b ≤ 3181 ∧ (progG (fastF f x) u).2 = it f b u := by
  unfold progG
  have hlt := fast_lt (f := f) (x := x) 4 u (by omega)
  obtain ⟨b, hb, e⟩ := adv_times (adv_item (f := f) (x := x)) ((fastF f x).bl 4 u).1 ((fastF f x).bl 4 u).2
  refine ⟨1 + b, by omega, by have := Nat.mul_le_mul_right 1060 (show ((fastF f x).bl 4 u).1 ≤ 3 by omega); omega, ?_⟩
  dsimp only
  rw [e, it_add]
  rfl
end
def fast : Gen Nat Nat := fastF nx xF
def rd (n : Nat) (r : Nat × Nat) : Bool × Nat := (Nat.ble r.1 n, r.2)
theorem rd_2 (n : Nat) (r : Nat × Nat) : (rd n r).2 = r.2 := rfl
def fSome (u : Nat) : Bool × Nat := rd 60 (someG fast u)
def fProg (u : Nat) : Bool × Nat := rd 220 (progG fast u)
def chk (q : Nat → Nat) (f : Nat → Bool × Nat) (N : Nat) : Nat → Nat → Bool
  | 0, u => true
  | n + 1, u => if endsB f N u then chk q f N n (q u) else false
theorem chk_all (q : Nat → Nat) (f : Nat → Bool × Nat) (N : Nat) : ∀ n u, chk q f N n u = true → ∀ k, k < n → EndsIn f N (it q k u) := by
  intro n
  induction n with
  | zero => intro u _ k hk; omega
  | succ n ih =>
    intro u h k hk
    unfold chk at h
    by_cases hc : endsB f N u = true
    · rw [if_pos hc] at h
      cases k with
      | zero => exact endsB_in f N u hc
      | succ k => exact ih (q u) h k (by omega)
    · rw [if_neg hc] at h; cases h
end Go.Proofs.Ytldkhdoboieibaa.draw
