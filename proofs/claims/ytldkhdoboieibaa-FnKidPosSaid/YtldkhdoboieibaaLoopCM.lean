/-
  spec.l7Item as a whole; spec.l7Program and spec.l7Some, which draw again until the tree is small enough; spec.l7Any: some small tree.
-/
import Derived.Test.YtldkhdoboieibaaGH
import Derived.Test.YtldkhdoboieibaaItemC
namespace Go.Proofs.Ytldkhdoboieibaa.draw
open Go.ChangeShapes Go.WideShapes Go.ChangeAt Go.RowKit
open nd lcg
open sz (Sh expr_str stmt_str prog_str)
set_option linter.unusedVariables false
set_option maxRecDepth 20000

section
variable {B p len cap : Nat} {a : Option Addr} {zs : List Int}
theorem item_ok {w : World} {s : St} (H : In B w p a len cap zs s) :
    Calls Try.prog 61 #[.pointer (some ⟨p, 0, none⟩)] w (TOut B p a len cap zs (itemG (exactG zs) s).1 (itemG (exactG zs) s).2 w) := by
  obtain ⟨K2, hO⟩ : ∃ K, ((exactG zs).bl 2 s).1 = K := ⟨_, rfl⟩
  obtain ⟨u, hu⟩ : ∃ u, ((exactG zs).bl 2 s).2 = u := ⟨_, rfl⟩
  obtain ⟨K, hK⟩ : ∃ K, ((exactG zs).bl 8 u).1 = K := ⟨_, rfl⟩
  obtain ⟨t, ht⟩ : ∃ t, ((exactG zs).bl 8 u).2 = t := ⟨_, rfl⟩
  have hk2 := exact_lt zs 2 s (by decide)
  have hb := exact_lt zs 8 u (by decide)
  rw [item_arm, hO, hu, hK, ht]
  rw [hO] at hk2
  rw [hK] at hb
  have z1 : SmE 21 (exprG (exactG zs) 1) := ((exprs_small zs 1).1).mono (by decide)
  have z2 : SmE 21 (exprG (exactG zs) 2) := ((exprs_small zs 2).1).mono (by decide)
  have hA : Itm B p len cap a zs (1 + (K2 : Int)) (exprG (exactG zs) 1) (exprG (exactG zs) (1 + K2)) (blockG (exactG zs) (stmtG (exactG zs) (1 + K2))) := by
    rcases (show K2 = 0 ∨ K2 = 1 by omega) with rfl | rfl
    · obtain ⟨q1, q2⟩ := stmt_all B p len cap a zs 1 (by decide)
      exact ⟨by decide, by decide, expr_ok 1 (by decide) B p len cap a zs, expr_ok 1 (by decide) B p len cap a zs, block_ok (D := 1) (by decide) q1 q2 (by decide), z1, z1, (block_small q2).mono (by decide)⟩
    · obtain ⟨q1, q2⟩ := stmt_all B p len cap a zs 2 (by decide)
      exact ⟨by decide, by decide, expr_ok 1 (by decide) B p len cap a zs, expr_ok 2 (by decide) B p len cap a zs, block_ok (D := 2) (by decide) q1 q2 (by decide), z1, z2, (block_small q2).mono (by decide)⟩
  rcases (show K = 0 ∨ K = 1 ∨ K = 2 ∨ K = 3 ∨ K = 4 ∨ K = 5 ∨ K = 6 ∨ K = 7 by omega) with rfl | rfl | rfl | rfl | rfl | rfl | rfl | rfl
  · exact item0 hA H hO hk2 hu hK ht
  · exact item1 hA H hO hk2 hu hK ht
  · exact item2 hA H hO hk2 hu hK ht
  · exact item3 hA H hO hk2 hu hK ht
  · exact item4 hA H hO hk2 hu hK ht
  · exact item5 hA H hO hk2 hu hK ht
  · exact item6 hA H hO hk2 hu hK ht
  · exact item7 hA H hO hk2 hu hK ht
theorem itemA_small {A1 Ed Bk : St → List Nd × St} (h1 : SmE 5000 A1) (he : SmE 5000 Ed) (hb : SmE 5000 Bk) (b : Nat) (t : St) : Small 15001 (itemA (exactG zs) A1 Ed Bk b t).1 := by
  rcases b with _ | _ | _ | _ | _ | _ | _ | b
  · exact (sm1 _ (hb _)).mono (by decide)
  · exact (sm1 _ (he _)).mono (by decide)
  · exact (sm1 _ (hb _)).mono (by decide)
  · exact (sm_list (m := 2) _ (sm_cons (h1 _) (sm_cons (h1 _) sm_nil)) (by decide)).mono (by decide)
  · exact (sm_list (m := 3) _ (sm_cons (h1 _) (sm_cons (h1 _) (sm_cons (hb _) sm_nil))) (by decide)).mono (by decide)
  · have h3 := exact_lt zs 3 t (by decide)
    obtain ⟨l1, l2⟩ := times_small (word_small zs) ((exactG zs).bl 3 t).1 ((exactG zs).bl 3 t).2
    refine sm_list (k := 5000) (m := 3) _ ⟨fun q hq => ?_, by simp; omega⟩ (by decide)
    rcases List.mem_append.1 hq with h | h
    · exact (l1 q h).mono (by decide)
    · rw [List.mem_singleton] at h; rw [h]; exact hb _
  · exact (sm0 _).mono (by decide)
  · exact (sm_list (m := 2) _ (sm_cons (he _) (sm_cons (hb _) sm_nil)) (by decide)).mono (by decide)
theorem item_small : SmE 15001 (itemG (exactG zs)) := by
  intro s
  have hk2 := exact_lt zs 2 s (by decide)
  rw [item_arm]
  have z1 : SmE 5000 (exprG (exactG zs) 1) := ((exprs_small zs 1).1).mono (by decide)
  have z2 : SmE 5000 (exprG (exactG zs) 2) := ((exprs_small zs 2).1).mono (by decide)
  obtain ⟨K2, hO⟩ : ∃ K, ((exactG zs).bl 2 s).1 = K := ⟨_, rfl⟩
  rw [hO] at hk2
  rw [hO]
  rcases (show K2 = 0 ∨ K2 = 1 by omega) with rfl | rfl
  · exact itemA_small z1 z1 ((block_small (stmt_all 0 0 0 0 none zs 1 (by decide)).2).mono (by decide)) _ _
  · exact itemA_small z1 z2 ((block_small (stmt_all 0 0 0 0 none zs 2 (by decide)).2).mono (by decide)) _ _

/-! ### How many rounds are left -/
theorem least {P : Nat → Prop} (h : ∃ k, P k) : ∃ k, P k ∧ ∀ j, P j → k ≤ j := by
  obtain ⟨k, hk⟩ := h
  have key : ∀ n k, k ≤ n → P k → ∃ k, P k ∧ ∀ j, P j → k ≤ j := by
    intro n
    induction n with
    | zero => intro k hkn hk; exact ⟨k, hk, fun j _ => by omega⟩
    | succ n ih =>
      intro k hkn hk
      by_cases hj : ∃ j, j < k ∧ P j
      · obtain ⟨j, h1, h2⟩ := hj
        exact ih j (by omega) h2
      · exact ⟨k, hk, fun j hpj => by
          rcases Nat.lt_or_ge j k with h | h
          · exact absurd ⟨j, h, hpj⟩ hj
          · exact h⟩
  exact key k k (Nat.le_refl _) hk
noncomputable def mu {α : Type} (f : α → Bool × α) (he : ∀ s, ∃ k, EndsIn f k s) (s : α) : Nat := Classical.choose (least (he s))
theorem mu_step {α : Type} (f : α → Bool × α) (he : ∀ s, ∃ k, EndsIn f k s) (s : α) (h : (f s).1 = false) : mu f he (f s).2 < mu f he s := by
  have h1 := Classical.choose_spec (least (he s))
  have h2 := Classical.choose_spec (least (he (f s).2))
  show Classical.choose (least (he (f s).2)) < Classical.choose (least (he s))
  generalize Classical.choose (least (he (f s).2)) = k2 at h2
  generalize Classical.choose (least (he s)) = k1 at h1
  cases k1 with
  | zero => exact absurd h1.1 (fun e => e)
  | succ n =>
    rcases h1.1 with e | e
    · rw [h] at e; cases e
    · have := h2.2 n e
      omega
/-- Where the cursor at p stands. -/
def curOf (w : World) (p : Nat) : St :=
  match w.heap[p]? with
  | some (Obj.cells c _ _) => (match c[1]?, c[2]? with
    | some (Value.int _ i), some (Value.int _ h) => (i.toNat, h)
    | _, _ => (0, 0))
  | _ => (0, 0)
theorem cur_of {w : World} {s : St} (H : In B w p a len cap zs s) : curOf w p = s := by
  have h := H.cur
  unfold Cur at h
  unfold curOf
  rw [h]
  obtain ⟨i, h⟩ := s
  simp
def RelRed (B p len cap : Nat) (a : Option Addr) (zs : List Int) (W wr : World) : Prop := ∃ s, In B wr p a len cap zs s ∧ W.grownBy wr (some p)
/-- Some small tree; a binary operation in it has no more than two kids. -/
def TAnyX (B p : Nat) (a : Option Addr) (len cap : Nat) (zs : List Int) (w : World) (e : Ending) (w' : World) : Prop :=
  ∃ q s', TOut B p a len cap zs q s' w e w' ∧ Small 2300 q ∧ (∀ t ∈ q, Sh t) ∧ ∀ t ∈ q, ar.Ar t
/-- Some small tree. -/
def TAny (B p : Nat) (a : Option Addr) (len cap : Nat) (zs : List Int) (w : World) (e : Ending) (w' : World) : Prop :=
  ∃ q s', TOut B p a len cap zs q s' w e w' ∧ Small 2300 q ∧ ∀ t ∈ q, Sh t
theorem TAnyX.any {B p : Nat} {a : Option Addr} {len cap : Nat} {zs : List Int} {w : World} {e : Ending} {w' : World} (h : TAnyX B p a len cap zs w e w') : TAny B p a len cap zs w e w' := by
  obtain ⟨q, s', h1, h2, h3, _⟩ := h
  exact ⟨q, s', h1, h2, h3⟩

set_option maxHeartbeats 1600000 in
theorem some_okx {w : World} {s : St} (H : In B w p a len cap zs s) :
    Calls Try.prog 39 #[.pointer (some ⟨p, 0, none⟩)] w (TAnyX B p a len cap zs w) := by
  have HI := Lib.hid H
  have HP := H.lt
  clear H
  go_enter Try.func39, Try.ntmps39
  go_wp2
  go_loopw [3] (fun _ wr => RelRed B p len cap a zs w wr) (fun _ wr => mu (rdE 60 (someG (exactG zs))) (some_every zs) (curOf wr p))
  case atStart => exact ⟨s, HI.out, grown_refl⟩
  case round =>
    obtain ⟨s', hI, hG⟩ := hrel
    have HIr := Lib.hid hI
    have HGr := Lib.hid hG
    clear hI hG
    obtain ⟨K, hK⟩ : ∃ K, ((exactG zs).bl 4 s').1 = K := ⟨_, rfl⟩
    obtain ⟨u, hu⟩ : ∃ u, ((exactG zs).bl 4 s').2 = u := ⟨_, rfl⟩
    have hk := exact_lt zs 4 s' (by decide)
    rw [hK] at hk
    have HQ := Lib.hid (show someG (exactG zs) s' = exprG (exactG zs) (1 + K) u by unfold someG; rw [hK, hu])
    have HK := Lib.hid hK
    have HU := Lib.hid hu
    have hsm : Small 300 (exprG (exactG zs) (1 + K) u).1 := ((exprs_small zs (1 + K)).1 u).mono (by rcases (show K = 0 ∨ K = 1 ∨ K = 2 ∨ K = 3 by omega) with rfl | rfl | rfl | rfl <;> decide)
    have HSM := Lib.hid hsm
    have HZ : (exprG (exactG zs) (1 + K) u).1.length ≤ 300 := hsm.2.1
    have hE := expr_ok (1 + K) (by omega) B p len cap a zs
    rw [show (((1 + K : Nat)) : Int) = 1 + (K : Int) by omega] at hE
    have HE := Lib.hid hE
    clear hK hu hsm hE
    go_wp2_with fail
    refine (bl_ok 4 (by decide) HK.out HIr.out).mono ?_
    rintro e w1 ⟨rfl, I1, G1⟩
    rw [HU.out] at I1
    have G1' := Lib.hid (grown_trans HGr.out G1)
    clear G1
    go_wp2_with fail
    refine (HE.out _ _ I1).mono ?_
    rintro e w2 ⟨v, rfl, T2, I2, G2⟩
    obtain ⟨a2, c2, rfl⟩ := T2.form
    have HM := Lib.hid (show TOut B p a len cap zs (exprG (exactG zs) (1 + K) u).1 (exprG (exactG zs) (1 + K) u).2 w _ w2 from TOut.back G1'.out HP ⟨_, rfl, T2, I2, G2⟩)
    have HI2 := Lib.hid I2
    have HG2 := Lib.hid (grown_trans G1'.out G2)
    obtain ⟨n, hn⟩ : ∃ n, (exprG (exactG zs) (1 + K) u).1.length = n := ⟨_, rfl⟩
    have HN := Lib.hid hn
    rw [hn] at HM HZ ⊢
    clear T2 I2 G2 I1 hn
    by_cases hlt : n ≤ 60
    · have hi : (n : Int) ≤ 60 := by omega
      go_wp2
      go_ret
      exact ⟨_, _, HM.out, HSM.out.mono (by decide), expr_str zs _ _, ar.expr_ar zs _ _⟩
    · have hi : ¬ (n : Int) ≤ 60 := by omega
      go_wp2
      go_roundw
      case rel => exact ⟨_, HI2.out, HG2.out⟩
      case measure =>
        rw [cur_of HIr.out, cur_of HI2.out]
        have h := mu_step (rdE 60 (someG (exactG zs))) (some_every zs) s' (by
          show Nat.ble (someG (exactG zs) s').1.length 60 = false
          rw [HQ.out, HN.out]
          cases hb : Nat.ble n 60 with
          | false => rfl
          | true => exact absurd (Nat.le_of_ble_eq_true hb) hlt)
        have e2 : (rdE 60 (someG (exactG zs)) s').2 = (exprG (exactG zs) (1 + K) u).2 := by
          show (someG (exactG zs) s').2 = _
          rw [HQ.out]
        rw [e2] at h
        exact h
theorem some_ok {w : World} {s : St} (H : In B w p a len cap zs s) :
    Calls Try.prog 39 #[.pointer (some ⟨p, 0, none⟩)] w (TAny B p a len cap zs w) :=
  (some_okx H).mono fun _ _ h => h.any
end
end Go.Proofs.Ytldkhdoboieibaa.draw
