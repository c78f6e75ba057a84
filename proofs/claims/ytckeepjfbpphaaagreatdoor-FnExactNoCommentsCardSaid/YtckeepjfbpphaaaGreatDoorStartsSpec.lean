/-
  Where the part of each node begins, the model's text: spec.l6Starts, ShapeOk, StartOf: contracts.
-/
import Derived.Test.YtckeepjfbpphaaaGreatDoorTreeMath
import Derived.Test.YtckeepjfbpphaaaGreatDoorOwnI
import Derived.Test.YtckeepjfbpphaaaGreatDoorNdEq
namespace Go.Proofs.YtckeepjfbpphaaaGreatDoor.nd
open Go.ChangeShapes Go.WideShapes Go.ChangeAt Go.RowKit
set_option linter.unusedVariables false
set_option maxRecDepth 20000

def RelSt (B : Nat) (W : World) (l : List Nd) (v i : Value) (wr : World) : Prop :=
  ∃ (I : Nat) (ss : List Nat), I ≤ l.length ∧ OwnI B v (ints ss) wr ∧ i = .int .i64 (I : Int) ∧ ss.length = I ∧ Low ss ∧ stF (l.drop I) ss = stF l [] ∧ Below B W wr
def RelBk (ss : List Nat) (kids : List Int) (I : Nat) (p k : Value) : Prop :=
  ∃ (K P : Nat) (kk : Int), K ≤ kids.length ∧ p = .int .i64 (P : Int) ∧ k = .int .i64 kk ∧ kk = (K : Int) - 1 ∧ P ≤ I ∧ back ss (kids.take K).reverse P = back ss kids.reverse I

/-- What l6Starts answers. -/
def StOut (l : List Nd) (w : World) (e : Ending) (w' : World) : Prop :=
  ∃ a' c', e = .returned (.tuple #[.slice a' (stR l).length c', .bool (stB l)]) ∧ Below w.heap.size w w' ∧ Ints w'.heap.size w' a' (ints (stR l))

set_option maxHeartbeats 3200000 in
theorem spec_starts (l : List Nd) (a : Option Addr) (cap : Nat) (w : World) (hn : l.length ≤ 1048576) (hk : ∀ t ∈ l, t.kids.length ≤ 1048576) (hc : Lies w.heap.size w a l) :
    Calls Tryz.prog 34 #[.slice a l.length cap] w (StOut l w) := by
  have HC := Lib.hid hc
  have HKL := Lib.hid hk
  have HO0 := Lib.hid (OwnI.lit (Nat.le_refl w.heap.size))
  clear hc hk
  go_enter Tryz.func34, Tryz.ntmps34
  go_wp2
  go_loopw [4, 5] (fun v i wr => RelSt w.heap.size w l v i wr) (fun _ i _ => l.length - (intOf i).toNat)
  case atStart => exact ⟨0, [], by omega, HO0.out, rfl, rfl, Low.nil, by simp, (Below.refl _ _).alloc (Nat.le_refl _) _⟩
  case round =>
    obtain ⟨I, ss, hI, hown, rfl, hlen, hlow, hst, hbel⟩ := hrel
    have HOWN := Lib.hid hown
    have HLOW := Lib.hid hlow
    have HST := Lib.hid hst
    have HB := Lib.hid hbel
    have HLEN := Lib.hid hlen
    obtain ⟨av, cv, rfl⟩ := hown.form
    clear hlow hst hbel hown
    by_cases hlt : I < l.length
    · obtain ⟨b, o, rfl, hb, hcell⟩ := lies_at HC.out hlt
      obtain ⟨ak, ck, ⟨c0, c1, c2, c3, c4⟩, hik⟩ := (hcell I hlt).keep HB.out (Nat.le_refl _) hb
      have HS1 := Lib.hid (fun s => stF_step hlt (ss := ss) (s := s))
      have HS2 := Lib.hid (stF_none hlt (ss := ss))
      have hkl := HKL.out l[I] (List.getElem_mem hlt)
      obtain ⟨t, ht⟩ : ∃ t, t = l[I] := ⟨_, rfl⟩
      rw [← ht] at c4 hik HS1 HS2 hkl
      have HIK := Lib.hid hik
      clear ht hcell c0 c1 c2 c3 hik
      have hi1 : (I : Int) < (l.length : Int) := by omega
      have hi0 : (0 : Int) ≤ (I : Int) := by omega
      rw [ints_len, hlen]
      go_wp2
      go_loop [6, 7] (fun p k => RelBk ss t.kids I p k) (fun _ k => (intOf k + 1).toNat)
      case atStart => exact ⟨t.kids.length, I, _, Nat.le_refl _, rfl, rfl, rfl, Nat.le_refl _, by rw [List.take_length]⟩
      case round =>
        obtain ⟨K, P, kk, hK, rfl, rfl, hkk, hP, hback⟩ := hrel
        have HBK := Lib.hid hback
        clear hback
        by_cases hK0 : K = 0
        · have hneg : ¬ (0 : Int) ≤ kk := by omega
          have HRES := Lib.hid (show back ss t.kids.reverse ss.length = some P by rw [HLEN.out, ← HBK.out, hK0]; rfl)
          have HNEW := Lib.hid (show stF (l.drop (I + 1)) (ss ++ [P]) = stF l [] by rw [← HS1.out P HRES.out]; exact HST.out)
          have HLN := Lib.hid (HLOW.out.snoc (s := P) (by rw [HLEN.out]; exact hP))
          have hle1 : (ints ss).length ≤ 1048576 := by rw [ints_len, HLEN.out]; omega
          have HBS := Lib.hid HB.out.size
          have HOWN2 := Lib.hid (show OwnI w.heap.size (.slice av I cv) (ints ss) wr by have := HOWN.out; rwa [ints_len, HLEN.out] at this)
          clear hkk hK0
          go_wp2_with (refine wpList_append_int _ (P : Int) rfl _ _ rfl w.heap.size _ (ints ss) rfl HOWN2.out rfl hle1 HBS.out ?_; intro v' w2 own2 b2 gr2)
          go_roundw
          case rel => exact ⟨I + 1, ss ++ [P], by omega, by rw [ints_snoc]; exact own2, by go_num, by simp [HLEN.out], HLN.out, HNEW.out, HB.out.trans b2⟩
          case measure => simp [intOf]; omega
        · obtain ⟨K, rfl⟩ : ∃ K', K = K' + 1 := ⟨K - 1, by omega⟩
          obtain rfl : kk = (K : Int) := by omega
          have hKl : K < t.kids.length := by omega
          obtain ⟨bk, ok, rfl, hbk, hkc⟩ := ints_at HIK.out hKl
          have d0 := hkc K hKl
          have HTR := Lib.hid (take_rev hKl)
          obtain ⟨x, hx⟩ : ∃ x, x = t.kids[K] := ⟨_, rfl⟩
          rw [← hx] at d0 HTR
          have hk1 : (K : Int) < (t.kids.length : Int) := by omega
          have hk0 : (0 : Int) ≤ (K : Int) := by omega
          clear hx hkc hkk hK0
          by_cases hP0 : P = 0
          · subst hP0
            have HNO := Lib.hid (show stF l [] = none by
              rw [← HST.out]
              refine HS2.out ?_
              rw [HLEN.out, ← HBK.out, HTR.out]
              exact back_no (fun h => h.2 rfl))
            have HR := Lib.hid (show stR l = [] by unfold stR; rw [HNO.out]; rfl)
            have HBB := Lib.hid (show stB l = false by unfold stB; rw [HNO.out]; rfl)
            by_cases hx1 : x = -1
            · obtain ⟨q1, q2⟩ := eq_facts hx1
              clear hx1
              go_wp2
              refine bodyPost_ret (v := .tuple #[.slice (some ⟨wr.heap.size, 0, none⟩) 0 0, .bool false]) (by simp [results, Tryz.results34, go_sem]) rfl ?_
              exact ⟨some ⟨wr.heap.size, 0, none⟩, 0, by rw [HR.out, HBB.out]; rfl, HB.out.alloc HB.out.size _, .inl (by rw [HR.out]; rfl)⟩
            · obtain ⟨q1, q2⟩ := ne_facts hx1
              clear hx1
              go_wp2
              refine bodyPost_ret (v := .tuple #[.slice (some ⟨wr.heap.size, 0, none⟩) 0 0, .bool false]) (by simp [results, Tryz.results34, go_sem]) rfl ?_
              exact ⟨some ⟨wr.heap.size, 0, none⟩, 0, by rw [HR.out, HBB.out]; rfl, HB.out.alloc HB.out.size _, .inl (by rw [HR.out]; rfl)⟩
          · obtain ⟨P, rfl⟩ : ∃ P', P = P' + 1 := ⟨P - 1, by omega⟩
            clear hP0
            by_cases hx1 : x = (P : Int)
            · obtain ⟨q1, q2⟩ := eq_facts hx1
              have hPl : P < ss.length := by rw [HLEN.out]; omega
              have HNX := Lib.hid (show back ss (t.kids.take K).reverse (ss[P]'hPl) = back ss t.kids.reverse I by
                rw [← HBK.out, HTR.out, back_yes (by rw [hx1]; omega) (by omega)]
                simp [hPl])
              have HPS := Lib.hid (HLOW.out P hPl)
              obtain ⟨S, hS⟩ : ∃ S, S = ss[P]'hPl := ⟨_, rfl⟩
              rw [← hS] at HNX HPS
              have hcell : ∃ g, av = some ⟨g, 0, none⟩ ∧ wr.cell? ⟨g, P, none⟩ = some (.int .i64 (S : Int)) := by
                rcases HOWN.out.blk with ⟨_, h⟩ | ⟨g, c, hv, _, h⟩
                · have h' : ss.length = 0 := by rw [← ints_len, h]; rfl
                  omega
                · injection hv with hv1 _ _
                  refine ⟨g, hv1, ?_⟩
                  have := h.at P (by rw [ints_len]; exact hPl)
                  rw [ints_get hPl, ← hS] at this
                  exact this
              obtain ⟨g, rfl, c9⟩ := hcell
              have hp1 : (P : Int) < (I : Int) := by omega
              have hp0 : (0 : Int) ≤ (P : Int) := by omega
              have hz : (((P : Int) + 1) == 0) = false := by simp; omega
              clear hx1 hS
              go_wp2
              go_round
              case rel => exact ⟨K, S, _, by omega, rfl, rfl, by omega, by have := HPS.out; omega, HNX.out⟩
              case measure => simp [intOf]
            · obtain ⟨q1, q2⟩ := ne_facts hx1
              have HNO := Lib.hid (show stF l [] = none by
                rw [← HST.out]
                refine HS2.out ?_
                rw [HLEN.out, ← HBK.out, HTR.out]
                exact back_no (fun h => hx1 (by rw [h.1]; omega)))
              have HR := Lib.hid (show stR l = [] by unfold stR; rw [HNO.out]; rfl)
              have HBB := Lib.hid (show stB l = false by unfold stB; rw [HNO.out]; rfl)
              clear hx1
              go_wp2
              refine bodyPost_ret (v := .tuple #[.slice (some ⟨wr.heap.size, 0, none⟩) 0 0, .bool false]) (by simp [results, Tryz.results34, go_sem]) rfl ?_
              exact ⟨some ⟨wr.heap.size, 0, none⟩, 0, by rw [HR.out, HBB.out]; rfl, HB.out.alloc HB.out.size _, .inl (by rw [HR.out]; rfl)⟩
    · obtain rfl : I = l.length := by omega
      have HE := Lib.hid (show stF l [] = some ss by rw [← HST.out, List.drop_length]; rfl)
      have HR := Lib.hid (show stR l = ss by unfold stR; rw [HE.out]; rfl)
      have HBB := Lib.hid (show stB l = true by unfold stB; rw [HE.out]; rfl)
      go_wp2
      refine bodyPost_ret (v := .tuple #[.slice av (ints ss).length cv, .bool true]) (by simp [results, Tryz.results34, go_sem]) rfl ?_
      exact ⟨av, cv, by rw [HR.out, HBB.out, ints_len], HB.out, by rw [HR.out]; exact HOWN.out.ints⟩

def inR (n a b : Int) : Bool := decide (a ≤ n) && decide (n ≤ b)
theorem inR_yes {n a b : Int} (h1 : a ≤ n) (h2 : n ≤ b) : inR n a b = true := by simp [inR, h1, h2]
theorem inR_no {n a b : Int} (h : ¬ (a ≤ n ∧ n ≤ b)) : inR n a b = false := by
  unfold inR
  by_cases h1 : a ≤ n
  · have : ¬ n ≤ b := fun h2 => h ⟨h1, h2⟩
    simp [this]
  · simp [h1]
theorem spec_in (n a b : Int) (w : World) : Calls Tryz.prog 33 #[.int .i64 n, .int .i64 a, .int .i64 b] w fun e w' => e = .returned (.bool (inR n a b)) ∧ w = w' := by
  by_cases h1 : a ≤ n
  · by_cases h2 : n ≤ b
    · have HE := Lib.hid (show inR n a b = true by simp [inR, h1, h2])
      go_enter Tryz.func33, Tryz.ntmps33
      go_wp2
      go_ret
      exact ⟨by rw [HE.out]; rfl, rfl⟩
    · have HE := Lib.hid (show inR n a b = false by simp [inR, h1, h2])
      go_enter Tryz.func33, Tryz.ntmps33
      go_wp2
      go_ret
      exact ⟨by rw [HE.out]; rfl, rfl⟩
  · have HE := Lib.hid (show inR n a b = false by simp [inR, h1])
    go_enter Tryz.func33, Tryz.ntmps33
    go_wp2
    go_ret
    exact ⟨by rw [HE.out]; rfl, rfl⟩
end Go.Proofs.YtckeepjfbpphaaaGreatDoor.nd
