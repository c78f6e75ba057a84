/-
  impl.startsOf, ShapeOk, StartOf: contracts.
-/
import Derived.Test.YtckeepjfbpphaaaGreatDoorSubtree
import Derived.Test.YtckeepjfbpphaaaGreatDoorShapeSpec
namespace Go.Proofs.YtckeepjfbpphaaaGreatDoor.nd
open Go.ChangeShapes Go.WideShapes Go.ChangeAt Go.RowKit
set_option linter.unusedVariables false

theorem subtree (ss : List Nat) (zs : List Int) (a a' : Option Addr) (cap cap' : Nat) (w : World) (hl : Low ss) (hs : ss.length ≤ 1048576) (hreach : zs.length ≤ 1048576) (hc : Ints w.heap.size w a (ints ss)) (hc' : Ints w.heap.size w a' zs) :
    Calls Tryz.prog 54 #[.slice a ss.length cap, .slice a' zs.length cap'] w fun e W' => e = .returned (.int .i64 (subF ss zs)) ∧ Below w.heap.size w W' :=
  (callsIn_wide (n := 3)).1 (subtree_in Fence.wide 3 trivial trivial trivial rfl (Nat.le_refl _) ss zs a a' cap cap' w hl hs hreach hc hc')

/-- 'make([]int, 0, n)'. -/
theorem make_ints0 (n : Nat) (hn : n ≤ 1048576) (w : World) :
    (Instr.makeSlice 31 (.int .i64 0) (.int .i64 (n : Int))).run Tryz.prog w = .ok (.slice (some ⟨w.heap.size, 0, none⟩) 0 n) (w.alloc (.cells (madeCells #[.int .i64 0] n) 3)) := by
  obtain ⟨i, hi, hz⟩ := Option.map_eq_some_iff.1 Tryz.infoInt
  simp only [Prod.mk.injEq] at hz
  obtain ⟨hz0, hs, hb⟩ := hz
  have := run_make (P := Tryz.prog) w 31 3 i _ Tryz.underlying31 hi hz0 .i64 .i64 0 n (by omega) (by omega) (by rw [hb]; omega) (by omega)
  rw [hs, Nat.mul_one] at this
  exact this
theorem OwnI.made {B : Nat} {w : World} (n : Nat) (hn : n ≤ 1048576) (hB : B ≤ w.heap.size) : OwnI B (.slice (some ⟨w.heap.size, 0, none⟩) 0 n) [] (w.alloc (.cells (madeCells #[.int .i64 0] n) 3)) :=
  ⟨rfl, .inr ⟨w.heap.size, n, _, rfl, hB, heap_alloc_new w _, Nat.zero_le _, by unfold maxLen; omega, by simp [madeCells], by simp [ivals]⟩⟩

/-- What startsOf answers. -/
def SoOut (l : List Nd) (w : World) (e : Ending) (w' : World) : Prop :=
  ∃ a' c', e = .returned (.slice a' (stO l).length c') ∧ Below w.heap.size w w' ∧ Ints w'.heap.size w' a' (ints (stO l))
theorem SoOut.none {l : List Nd} {w w' : World} (h : stO l = []) (hb : Below w.heap.size w w') : SoOut l w (.returned (.slice .none 0 0)) w' :=
  ⟨.none, 0, by rw [h]; rfl, hb, .inl (by rw [h]; rfl)⟩

def RelSo (B : Nat) (W : World) (l : List Nd) (v i : Value) (wr : World) : Prop :=
  ∃ (I : Nat) (ss : List Nat), I ≤ l.length ∧ OwnI B v (ints ss) wr ∧ i = .int .i64 (I : Int) ∧ ss.length = I ∧ Low ss ∧ stF (l.drop I) ss = stF l [] ∧ Below B W wr

set_option maxRecDepth 20000 in
set_option maxHeartbeats 1600000 in
theorem starts_impl (l : List Nd) (a : Option Addr) (cap : Nat) (w : World) (hn : l.length ≤ 1048576) (hk : ∀ t ∈ l, t.kids.length ≤ 1048576) (hc : Lies w.heap.size w a l) :
    Calls Tryz.prog 42 #[.slice a l.length cap] w (SoOut l w) := by
  have HC := Lib.hid hc
  have HKL := Lib.hid hk
  clear hc hk
  by_cases h0 : l.length = 0
  · have HX := Lib.hid (stO_out (.inl h0))
    rw [h0]
    clear h0 hn
    go_enter Tryz.func42, Tryz.ntmps42
    go_wp2
    go_ret
    exact SoOut.none HX.out (Below.refl _ _)
  obtain ⟨n, hln⟩ : ∃ n, l.length = n + 1 := ⟨l.length - 1, by omega⟩
  clear h0
  have HLN := Lib.hid hln
  rw [hln] at hn ⊢
  have z1 : (((n : Int) + 1) == 0) = false := by simp; omega
  by_cases hbig : 399 < n
  · have HX := Lib.hid (stO_out (l := l) (.inr (by omega)))
    have g1 : (400 : Int) < (n : Int) + 1 := by omega
    have g2 : 400 < n + 1 := by omega
    clear hbig hln
    go_enter Tryz.func42, Tryz.ntmps42
    go_wp2
    go_ret
    exact SoOut.none HX.out (Below.refl _ _)
  have g1 : ¬ (400 : Int) < (n : Int) + 1 := by omega
  have g2 : ¬ 400 < n + 1 := by omega
  have g3 : decide (400 < n + 1) = false := decide_eq_false g2
  have HBIG := Lib.hid hbig
  have hmk : ∀ w : World, (Instr.makeSlice 31 (.int .i64 0) (.int .i64 ((n : Int) + 1))).run Tryz.prog w = .ok (.slice (some ⟨w.heap.size, 0, none⟩) 0 (n + 1)) (w.alloc (.cells (madeCells #[.int .i64 0] (n + 1)) 3)) := fun w => by
    have := make_ints0 (n + 1) hn w
    rwa [show ((n + 1 : Nat) : Int) = (n : Int) + 1 by omega] at this
  have HO0 := Lib.hid (OwnI.made (B := w.heap.size) (w := w) (n + 1) hn (Nat.le_refl _))
  clear hbig hln
  go_enter Tryz.func42, Tryz.ntmps42
  go_wp2
  go_loopw [3, 20] (fun v i wr => RelSo w.heap.size w l v i wr) (fun _ i _ => n + 1 - (intOf i).toNat)
  case atStart => exact ⟨0, [], by omega, HO0.out, rfl, rfl, Low.nil, by simp, (Below.refl _ _).alloc (Nat.le_refl _) _⟩
  case round =>
    obtain ⟨I, ss, hI, hown, rfl, hlen, hlow, hst, hbel⟩ := hrel
    have HOWN := Lib.hid hown
    have HLOW := Lib.hid hlow
    have HST := Lib.hid hst
    have HB := Lib.hid hbel
    have HLEN := Lib.hid hlen
    obtain ⟨av, cv, rfl⟩ := hown.form
    rw [HLN.out] at hI
    clear hlow hst hbel hown
    by_cases hlt : I < n + 1
    · have hltl : I < l.length := by have := HLN.out; omega
      obtain ⟨b, o, rfl, hb, hcell⟩ := lies_at HC.out hltl
      obtain ⟨ak, ck, ⟨c0, c1, c2, c3, c4⟩, hik⟩ := (hcell I hltl).keep HB.out (Nat.le_refl _) hb
      have HS1 := Lib.hid (fun s => stF_step hltl (ss := ss) (s := s))
      have HS2 := Lib.hid (stF_none hltl (ss := ss))
      have HKK := Lib.hid (HKL.out l[I] (List.getElem_mem hltl))
      obtain ⟨t, ht⟩ : ∃ t, t = l[I] := ⟨_, rfl⟩
      rw [← ht] at c0 c1 c2 c3 c4 hik HS1 HS2 HKK
      have HIK := Lib.hid hik
      clear ht hcell hik
      have hi1 : (I : Int) < (n : Int) + 1 := by omega
      have hi0 : (0 : Int) ≤ (I : Int) := by omega
      rw [ints_len]
      have hle : ss.length ≤ 1048576 := by rw [HLEN.out]; omega
      have HLE := Lib.hid hle
      clear hlen
      go_wp2_with fail
      have hb0 := (Below.refl wr.heap.size wr).alloc (Nat.le_refl _) (.cells #[.int .i64 t.k, .int .i64 t.op, .string t.s, .string t.t, .slice ak t.kids.length ck] 36)
      refine (subtree ss t.kids av ak cv ck _ HLOW.out HLE.out HKK.out ((HOWN.out.ints.keep hb0 (Nat.le_refl _)).up hb0.size) (((HIK.out.up HB.out.size).keep hb0 (Nat.le_refl _)).up hb0.size)).mono ?_
      rintro e w2 ⟨he, b2⟩
      have HB2 := Lib.hid (hb0.trans (b2.mono hb0.size))
      have HB3 := Lib.hid (HB.out.trans (HB2.out.mono HB.out.size))
      have HOWN2 := Lib.hid (show OwnI w.heap.size (.slice av ss.length cv) (ints ss) w2 by have := HOWN.out.keep HB2.out (Nat.le_refl _); rwa [ints_len] at this)
      clear hb0 b2
      cases hbk : back ss t.kids.reverse ss.length
      · rw [sub_none hbk] at he
        subst he
        have HX := Lib.hid (stO_none (show stF l [] = none by rw [← HST.out]; exact HS2.out hbk))
        clear hbk
        go_wp2
        go_ret
        exact SoOut.none HX.out HB3.out
      · rename_i s
        rw [sub_some hbk] at he
        subst he
        have HNEW := Lib.hid (show stF (l.drop (I + 1)) (ss ++ [s]) = stF l [] by rw [← HS1.out s hbk]; exact HST.out)
        have HLN2 := Lib.hid (HLOW.out.snoc (back_le HLOW.out _ _ _ (Nat.le_refl _) hbk))
        have hle1 : (ints ss).length ≤ 1048576 := by rw [ints_len]; exact HLE.out
        have HBS := Lib.hid HB3.out.size
        have hs0 : ¬ (s : Int) < 0 := by omega
        clear hbk hle g3
        go_wp2_with (refine wpList_append_int _ (s : Int) rfl _ _ rfl w.heap.size _ (ints ss) rfl HOWN2.out rfl hle1 HBS.out ?_; intro v' w3 own3 b3 gr3)
        go_roundw
        case rel => exact ⟨I + 1, ss ++ [s], by have := HLN.out; omega, by rw [ints_snoc]; exact own3, by go_num, by simp [HLEN.out], HLN2.out, HNEW.out, HB3.out.trans b3⟩
        case measure => simp [intOf]; omega
    · obtain rfl : I = n + 1 := by omega
      have HE := Lib.hid (show stF l [] = some ss by rw [← HST.out, ← HLN.out, List.drop_length]; rfl)
      have hnl : n < ss.length := by omega
      obtain ⟨b, o, rfl, hb, hcell⟩ := ints_at HOWN.out.ints (I := n) (by rw [ints_len]; exact hnl)
      have c9 := hcell n (by rw [ints_len]; exact hnl)
      rw [ints_get hnl] at c9
      obtain ⟨S, hS⟩ : ∃ S, S = ss[n]'hnl := ⟨_, rfl⟩
      rw [← hS] at c9
      have hget : ss.getD (l.length - 1) 0 = S := by rw [hS, HLN.out]; simp [hnl]
      have HG := Lib.hid hget
      have i1 : (n : Int) < (n : Int) + 1 := by omega
      have i0 : (0 : Int) ≤ (n : Int) := by omega
      rw [ints_len, hlen]
      clear hcell hget hS
      by_cases hS0 : S = 0
      · have q : ((S : Int) != 0) = false := by rw [hS0]; rfl
        have HX := Lib.hid (stO_some (by have := HLN.out; omega) (by have := HLN.out; have := HBIG.out; omega) HE.out (by rw [HG.out, hS0]))
        clear hS0
        go_wp2
        go_ret
        exact ⟨some ⟨b, o, none⟩, cv, by rw [HX.out, HLEN.out]; rfl, HB.out, by rw [HX.out]; exact HOWN.out.ints⟩
      · have q : ((S : Int) != 0) = true := by simp; exact hS0
        have HX := Lib.hid (stO_last HE.out (by rw [HG.out]; exact hS0))
        clear hS0
        go_wp2
        go_ret
        exact SoOut.none HX.out HB.out

theorem impl_shape (l : List Nd) (a : Option Addr) (cap : Nat) (w : World) (hn : l.length ≤ 1048576) (hk : ∀ t ∈ l, t.kids.length ≤ 1048576) (hc : Lies w.heap.size w a l) :
    Calls Tryz.prog 28 #[.slice a l.length cap] w fun e w' => e = .returned (.bool (shape l)) ∧ Below w.heap.size w w' := by
  have HX := Lib.hid (starts_impl l a cap w hn hk hc)
  clear hc hk
  cases hs : shape l
  · have h0 : ¬ 0 < (stO l).length := of_decide_eq_false hs
    have hz : (stO l).length = 0 := by omega
    have HZ := Lib.hid hz
    have HS := Lib.hid hs
    clear h0 hz hs
    go_enter Tryz.func28, Tryz.ntmps28
    go_wp2_with fail
    refine HX.out.mono ?_
    rintro e w2 ⟨a2, c2, rfl, b2, _⟩
    rw [HZ.out]
    go_wp2
    go_ret
    exact ⟨rfl, b2⟩
  · have h0 : 0 < (stO l).length := of_decide_eq_true hs
    obtain ⟨m, hm⟩ : ∃ m, m = (stO l).length := ⟨_, rfl⟩
    have HM := Lib.hid hm
    rw [← hm] at h0
    have h1 : (0 : Int) < (m : Int) := by omega
    clear hm hs
    go_enter Tryz.func28, Tryz.ntmps28
    go_wp2_with fail
    refine HX.out.mono ?_
    rintro e w2 ⟨a2, c2, rfl, b2, _⟩
    rw [← HM.out]
    go_wp2
    go_ret
    exact ⟨rfl, b2⟩

end Go.Proofs.YtckeepjfbpphaaaGreatDoor.nd
