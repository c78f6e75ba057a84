/-
  spec.l7Leaf and spec.l7Lvalue by the plain drawing functions.
-/
import Derived.Test.YtldkhdoboieibaaMakeOut
namespace Go.Proofs.Ytldkhdoboieibaa.draw
open Go.ChangeShapes Go.WideShapes Go.ChangeAt Go.RowKit
open nd
set_option linter.unusedVariables false
theorem leafT_eq (zs : List Int) (s : St) : leafT zs s = leafG (exactG zs) s := by
  have h2 := belowF_bd zs 2 (belowF zs 7 s).2 (by decide)
  have e : (exactG zs).bl 7 s = ((belowF zs 7 s).1.toNat, (belowF zs 7 s).2) := rfl
  have e2 : ((exactG zs).bl 2 (belowF zs 7 s).2) = ((belowF zs 2 (belowF zs 7 s).2).1.toNat, (belowF zs 2 (belowF zs 7 s).2).2) := rfl
  unfold leafT leafG
  rw [e]
  dsimp only
  generalize (belowF zs 7 s).1.toNat = b
  rcases b with _ | _ | _ | b
  · rfl
  · rfl
  · show (if (belowF zs 2 (belowF zs 7 s).2).1 = 0 then _ else _) = (if ((exactG zs).bl 2 (belowF zs 7 s).2).1 = 0 then _ else _)
    rw [e2]
    dsimp only
    by_cases hc : (belowF zs 2 (belowF zs 7 s).2).1 = 0
    · rw [if_pos hc, if_pos (by omega)]; rfl
    · rw [if_neg hc, if_neg (by omega)]; rfl
  · rfl
/-- The contract of an expression's draw at depth D: it answers what E does. -/
def ExprC (B p len cap : Nat) (a : Option Addr) (zs : List Int) (f : Nat) (D : Int) (E : St → List Nd × St) : Prop :=
  ∀ w s, In B w p a len cap zs s → Calls Try.prog f #[.pointer (some ⟨p, 0, none⟩), .int .i64 D] w (TOut B p a len cap zs (E s).1 (E s).2 w)
theorem leaf_ok {B p len cap : Nat} {w : World} {a : Option Addr} {zs : List Int} {s : Nat × Int} (H : In B w p a len cap zs s) :
    Calls Try.prog 51 #[.pointer (some ⟨p, 0, none⟩)] w (TOut B p a len cap zs (leafG (exactG zs) s).1 (leafG (exactG zs) s).2 w) := by
  rw [← leafT_eq]
  exact leaf_any H
/-- Trees small enough to be put together. -/
def Good (q : List Nd) : Prop := 0 < q.length ∧ q.length ≤ 20000 ∧ ∀ t ∈ q, t.kids.length ≤ 1048576
theorem good_parts {n : Nd} {w2 : World} {a2 : Option Addr} {qs : List (List Nd)} {cap2 : Nat} (hp : Parts w2.heap.size w2 a2 qs) (hg : ∀ q ∈ qs, Good q) (hl : qs.length ≤ 5) :
    Calls Try.prog 53 #[.agg #[.int .i64 n.k, .int .i64 n.op, .string n.s, .string n.t, .slice none 0 0], .slice a2 qs.length cap2] w2 (PgOut (makeT n qs) w2) := by
  refine make_any n qs a2 cap2 w2 hp (fun q hq => (hg q hq).1) ?_ (by omega) (fun q hq => (hg q hq).2.2)
  have key : ∀ l : List (List Nd), (∀ q ∈ l, Good q) → sumL l ≤ l.length * 20000 := by
    intro l
    induction l with
    | nil => intro _; simp [sumL]
    | cons q l ih =>
      intro h
      have h1 := (h q (List.mem_cons_self ..)).2.1
      have h2 := ih (fun q hq => h q (List.mem_cons_of_mem _ hq))
      simp only [sumL, List.length_cons]
      omega
  have := key qs hg
  omega
set_option maxHeartbeats 1600000 in
theorem lval_ok {B p len cap : Nat} {w : World} {a : Option Addr} {zs : List Int} {s : Nat × Int} (D : Int) (E1 E2 : St → List Nd × St) (hD : -100 ≤ D ∧ D ≤ 100) (h1 : ExprC B p len cap a zs 46 (D - 1) E1) (h2 : ExprC B p len cap a zs 46 (D - 2) E2)
    (g1 : ∀ s, Good (E1 s).1) (g2 : ∀ s, Good (E2 s).1) (H : In B w p a len cap zs s) :
    Calls Try.prog 52 #[.pointer (some ⟨p, 0, none⟩), .int .i64 D] w (TOut B p a len cap zs (lvalG (exactG zs) E1 E2 s).1 (lvalG (exactG zs) E1 E2 s).2 w) := by
  have HI := Lib.hid H
  have H1 := Lib.hid h1
  have H2 := Lib.hid h2
  have G1' := Lib.hid g1
  have G2' := Lib.hid g2
  clear H h1 h2 g1 g2
  have hb := belowF_bd zs 4 s (by omega)
  obtain ⟨K, hK⟩ : ∃ K : Nat, (belowF zs 4 s).1 = K := ⟨(belowF zs 4 s).1.toNat, by omega⟩
  have HK := Lib.hid hK
  have hE : (exactG zs).bl 4 s = (K, (belowF zs 4 s).2) := by
    show ((belowF zs 4 s).1.toNat, (belowF zs 4 s).2) = _
    rw [hK, Int.toNat_natCast]
  rw [hK] at hb
  rcases (show K = 0 ∨ K = 1 ∨ K = 2 ∨ K = 3 by omega) with rfl | rfl | rfl | rfl
  · have HQ := Lib.hid (show lvalG (exactG zs) E1 E2 s = (makeT (nodeS 5 (pickS l2WordL zs (belowF zs 4 s).2)) [(E1 (belowF zs 11 (belowF zs 4 s).2).2).1], (E1 (belowF zs 11 (belowF zs 4 s).2).2).2) by unfold lvalG; rw [hE]; rfl)
    clear hK hE
    go_enter Try.func52, Try.ntmps52
    go_wp2_with fail
    refine (below_any 4 HI.out).mono ?_
    rintro e w1 ⟨he, I1, G1⟩
    rw [HK.out] at he
    subst he
    go_wp2_with fail
    refine (x_l2Word I1).mono ?_
    rintro e w2 ⟨⟨rfl, I2, G2⟩, Z2⟩
    go_wp2_with fail
    refine (H1.out _ _ I2).mono ?_
    rintro e w3 ⟨v3, rfl, T3, I3, G3⟩
    obtain ⟨a3, c3, rfl⟩ := T3.form
    go_wp2_with fail
    refine (good_parts (n := nodeS 5 (pickS l2WordL zs (belowF zs 4 s).2)) (parts_of [.slice a3 _ c3] [(E1 (belowF zs 11 (belowF zs 4 s).2).2).1] rfl (fun i h _ => by have e0 : i = 0 := (by simpa using h); subst e0; exact T3)) (by simpa using G1'.out _) (by simp)).mono ?_
    rintro e w4 hmk
    have HM := Lib.hid (TOut.make I3 HI.out.lt (grown_trans (grown_trans G1 G2) G3) ((Below.refl _ _).alloc (Nat.le_refl _) _) hmk)
    obtain ⟨v4, rfl, _⟩ := HM.out
    go_wp2
    go_ret
    rw [HQ.out]
    exact HM.out
  · have HQ := Lib.hid (show lvalG (exactG zs) E1 E2 s = (makeT (nodeO 6 0) [(E2 (belowF zs 4 s).2).1], (E2 (belowF zs 4 s).2).2) by unfold lvalG; rw [hE]; rfl)
    clear hK hE
    go_enter Try.func52, Try.ntmps52
    go_wp2_with fail
    refine (below_any 4 HI.out).mono ?_
    rintro e w1 ⟨he, I1, G1⟩
    rw [HK.out] at he
    subst he
    go_wp2_with fail
    refine (H2.out _ _ I1).mono ?_
    rintro e w3 ⟨v3, rfl, T3, I3, G3⟩
    obtain ⟨a3, c3, rfl⟩ := T3.form
    go_wp2_with fail
    refine (good_parts (n := nodeO 6 0) (parts_of [.slice a3 _ c3] [(E2 (belowF zs 4 s).2).1] rfl (fun i h _ => by have e0 : i = 0 := (by simpa using h); subst e0; exact T3)) (by simpa using G2'.out _) (by simp)).mono ?_
    rintro e w4 hmk
    have HM := Lib.hid (TOut.make I3 HI.out.lt (grown_trans G1 G3) ((Below.refl _ _).alloc (Nat.le_refl _) _) hmk)
    obtain ⟨v4, rfl, _⟩ := HM.out
    go_wp2
    go_ret
    rw [HQ.out]
    exact HM.out
  · have HQ := Lib.hid (show lvalG (exactG zs) E1 E2 s = (leaf 1 (pickS l2WordL zs (belowF zs 4 s).2), (belowF zs 11 (belowF zs 4 s).2).2) by unfold lvalG; rw [hE]; rfl)
    clear hK hE
    go_enter Try.func52, Try.ntmps52
    go_wp2_with fail
    refine (below_any 4 HI.out).mono ?_
    rintro e w1 ⟨he, I1, G1⟩
    rw [HK.out] at he
    subst he
    go_wp2_with fail
    refine (x_l2Word I1).mono ?_
    rintro e w2 ⟨⟨rfl, I2, G2⟩, Z2⟩
    go_wp2
    go_ret
    rw [HQ.out]
    exact TOut.leaf 1 _ I2 HI.out.lt (Nat.lt_of_le_of_lt G1.size Z2) (grown_trans G1 G2)
  · have HQ := Lib.hid (show lvalG (exactG zs) E1 E2 s = (leaf 1 (pickS l2WordL zs (belowF zs 4 s).2), (belowF zs 11 (belowF zs 4 s).2).2) by unfold lvalG; rw [hE]; rfl)
    clear hK hE
    go_enter Try.func52, Try.ntmps52
    go_wp2_with fail
    refine (below_any 4 HI.out).mono ?_
    rintro e w1 ⟨he, I1, G1⟩
    rw [HK.out] at he
    subst he
    go_wp2_with fail
    refine (x_l2Word I1).mono ?_
    rintro e w2 ⟨⟨rfl, I2, G2⟩, Z2⟩
    go_wp2
    go_ret
    rw [HQ.out]
    exact TOut.leaf 1 _ I2 HI.out.lt (Nat.lt_of_le_of_lt G1.size Z2) (grown_trans G1 G2)
end Go.Proofs.Ytldkhdoboieibaa.draw
