/-
  TreeComments of both sides: contracts.
-/
import Derived.Test.YtckeepjfbpphaaaNdEq
import Derived.Test.YtckeepjfbpphaaaStrs
namespace Go.Proofs.Ytckeepjfbpphaaa.ncm
open Go.ChangeShapes Go.WideShapes Go.ChangeAt Go.RowKit
open nd strs
set_option linter.unusedVariables false

/-- The comments' texts, in order. -/
def cmF (l : List Nd) : List ByteArray := (l.filter (fun t => decide (t.k = 34))).map (·.s)
theorem cm_len (l : List Nd) : (cmF l).length ≤ l.length := by
  unfold cmF
  rw [List.length_map]
  exact List.length_filter_le _ _
theorem cm_step {l : List Nd} {I : Nat} (h : I < l.length) : cmF (l.take (I + 1)) = if l[I].k = 34 then cmF (l.take I) ++ [l[I].s] else cmF (l.take I) := by
  unfold cmF
  rw [List.take_succ_eq_append_getElem h, List.filter_append, List.map_append]
  by_cases hq : l[I].k = 34
  · rw [if_pos hq, List.filter_cons_of_pos (by simpa using hq)]; rfl
  · rw [if_neg hq, List.filter_cons_of_neg (by simpa using hq)]; simp
theorem own_any {B : Nat} {v : Value} {d : List ByteArray} {w : World} (h : SOwn B v d w) (z : Obj) : SOwn B v d (w.alloc z) := h.keep ((Below.refl _ _).alloc (Nat.le_refl _) z) (Nat.le_refl _)
def RelC (w : World) (l : List Nd) (v i : Value) (wr : World) : Prop :=
  ∃ I : Nat, I ≤ l.length ∧ i = .int .i64 (I : Int) ∧ SOwn w.heap.size v (cmF (l.take I)) wr ∧ Below w.heap.size w wr
/-- What both answer. -/
def CmOut (l : List Nd) (w : World) (e : Ending) (w' : World) : Prop := ∃ a cap, e = .returned (.slice a (cmF l).length cap) ∧ SOwn w.heap.size (.slice a (cmF l).length cap) (cmF l) w' ∧ Below w.heap.size w w'

set_option maxHeartbeats 1600000 in
set_option maxRecDepth 20000 in
theorem impl_cm (l : List Nd) (a : Option Addr) (cap : Nat) (w : World) (hn : l.length ≤ 1048576) (hc : Lies w.heap.size w a l) :
    Calls Try.prog 17 #[.slice a l.length cap] w (CmOut l w) := by
  have HC := Lib.hid hc
  clear hc
  obtain ⟨n, hln⟩ : ∃ n, n = l.length := ⟨_, rfl⟩
  have HLN := Lib.hid hln
  rw [← hln]
  rw [← hln] at hn
  clear hln
  go_enter Try.func17, Try.ntmps17
  go_wp2
  go_loopw [3, 8] (fun v i wr => RelC w l v i wr) (fun _ i _ => n - (intOf i).toNat)
  case atStart => exact ⟨0, by omega, rfl, SOwn.nil _ _, Below.refl _ _⟩
  case round =>
    obtain ⟨I, hI, rfl, hown, hbel⟩ := hrel
    have HB := Lib.hid hbel
    rw [← HLN.out] at hI
    obtain ⟨d, hd⟩ : ∃ d, d = cmF (l.take I) := ⟨_, rfl⟩
    rw [← hd] at hown
    have hdl : d.length ≤ I := by rw [hd]; refine Nat.le_trans (cm_len _) ?_; simp; omega
    have HO := Lib.hid hown
    have HD := Lib.hid hd
    have hsz := hbel.size
    clear hbel hown hd
    by_cases hlt : I < n
    · have hltl : I < l.length := by have := HLN.out; omega
      obtain ⟨b, o, rfl, hb, hcell⟩ := lies_at HC.out hltl
      obtain ⟨ak, ck, ⟨c0, c1, c2, c3, c4⟩, hik⟩ := (hcell I hltl).keep HB.out (Nat.le_refl _) hb
      have HST := Lib.hid (cm_step hltl)
      rw [← HD.out] at HST
      obtain ⟨t, ht⟩ : ∃ t, t = l[I] := ⟨_, rfl⟩
      rw [← ht] at c0 c1 c2 c3 c4 HST
      clear hcell ht hik
      have hi1 : (I : Int) < (n : Int) := by omega
      have hi0 : (0 : Int) ≤ (I : Int) := by omega
      by_cases hk : t.k = 34
      · have HN := Lib.hid (show cmF (l.take (I + 1)) = d ++ [t.s] by rw [HST.out, if_pos hk])
        rw [hk] at c0
        clear hk
        go_wp2_with (at_builtin; go_loud (refine wpList_append_str _ t.s rfl _ _ rfl w.heap.size _ d rfl (own_any HO.out _) (by simp [Act.eval]) ?n1 ?n2 ?n3))
        case n1 => omega
        case n2 => first | exact hsz | (simp; omega)
        case n3 =>
          intro v' w2 hown' b2 _
          have HO2 := Lib.hid hown'
          have HB2 := Lib.hid ((HB.out.alloc HB.out.size _).trans b2)
          clear hown' b2
          go_wp2
          go_roundw
          case rel => exact ⟨I + 1, by have := HLN.out; omega, by go_num, by rw [HN.out]; exact HO2.out, HB2.out⟩
          case measure => simp [intOf]; omega
      · have HN := Lib.hid (show cmF (l.take (I + 1)) = d by rw [HST.out, if_neg hk])
        have hk1 : (t.k == 34) = false := by simpa using hk
        clear hk
        go_wp2
        go_roundw
        case rel => exact ⟨I + 1, by have := HLN.out; omega, by go_num, by rw [HN.out]; exact (own_any HO.out _), (HB.out.alloc HB.out.size _)⟩
        case measure => simp [intOf]; omega
    · obtain rfl : I = n := by omega
      have HE := Lib.hid (show d = cmF l by rw [HD.out, HLN.out, List.take_length])
      obtain ⟨a0, c0, rfl⟩ := HO.out.form
      go_wp2
      go_ret
      exact ⟨a0, c0, by rw [← HE.out]; rfl, by rw [← HE.out]; exact HO.out, HB.out⟩

set_option maxHeartbeats 1600000 in
set_option maxRecDepth 20000 in
theorem spec_cm (l : List Nd) (a : Option Addr) (cap : Nat) (w : World) (hn : l.length ≤ 1048576) (hc : Lies w.heap.size w a l) :
    Calls Try.prog 15 #[.slice a l.length cap] w (CmOut l w) := by
  have HC := Lib.hid hc
  clear hc
  obtain ⟨n, hln⟩ : ∃ n, n = l.length := ⟨_, rfl⟩
  have HLN := Lib.hid hln
  rw [← hln]
  rw [← hln] at hn
  clear hln
  go_enter Try.func15, Try.ntmps15
  go_wp2
  go_loopw [3, 4] (fun v i wr => RelC w l v i wr) (fun _ i _ => n - (intOf i).toNat)
  case atStart => exact ⟨0, by omega, rfl, SOwn.lit (Nat.le_refl _), (Below.refl _ _).alloc (Nat.le_refl _) _⟩
  case round =>
    obtain ⟨I, hI, rfl, hown, hbel⟩ := hrel
    have HB := Lib.hid hbel
    rw [← HLN.out] at hI
    obtain ⟨d, hd⟩ : ∃ d, d = cmF (l.take I) := ⟨_, rfl⟩
    rw [← hd] at hown
    have hdl : d.length ≤ I := by rw [hd]; refine Nat.le_trans (cm_len _) ?_; simp; omega
    have HO := Lib.hid hown
    have HD := Lib.hid hd
    have hsz := hbel.size
    clear hbel hown hd
    by_cases hlt : I < n
    · have hltl : I < l.length := by have := HLN.out; omega
      obtain ⟨b, o, rfl, hb, hcell⟩ := lies_at HC.out hltl
      obtain ⟨ak, ck, ⟨c0, c1, c2, c3, c4⟩, hik⟩ := (hcell I hltl).keep HB.out (Nat.le_refl _) hb
      have HST := Lib.hid (cm_step hltl)
      rw [← HD.out] at HST
      obtain ⟨t, ht⟩ : ∃ t, t = l[I] := ⟨_, rfl⟩
      rw [← ht] at c0 c1 c2 c3 c4 HST
      clear hcell ht hik
      have hi1 : (I : Int) < (n : Int) := by omega
      have hi0 : (0 : Int) ≤ (I : Int) := by omega
      by_cases hk : t.k = 34
      · have HN := Lib.hid (show cmF (l.take (I + 1)) = d ++ [t.s] by rw [HST.out, if_pos hk])
        rw [hk] at c0
        clear hk
        go_wp2_with (at_builtin; go_loud (refine wpList_append_str _ t.s rfl _ _ rfl w.heap.size _ d rfl HO.out (by simp [Act.eval]) ?n1 ?n2 ?n3))
        case n1 => omega
        case n2 => first | exact hsz | (simp; omega)
        case n3 =>
          intro v' w2 hown' b2 _
          have HO2 := Lib.hid hown'
          have HB2 := Lib.hid (HB.out.trans b2)
          clear hown' b2
          go_wp2
          go_roundw
          case rel => exact ⟨I + 1, by have := HLN.out; omega, by go_num, by rw [HN.out]; exact HO2.out, HB2.out⟩
          case measure => simp [intOf]; omega
      · have HN := Lib.hid (show cmF (l.take (I + 1)) = d by rw [HST.out, if_neg hk])
        have hk1 : (t.k == 34) = false := by simpa using hk
        clear hk
        go_wp2
        go_roundw
        case rel => exact ⟨I + 1, by have := HLN.out; omega, by go_num, by rw [HN.out]; exact HO.out, HB.out⟩
        case measure => simp [intOf]; omega
    · obtain rfl : I = n := by omega
      have HE := Lib.hid (show d = cmF l by rw [HD.out, HLN.out, List.take_length])
      obtain ⟨a0, c0, rfl⟩ := HO.out.form
      go_wp2
      go_ret
      exact ⟨a0, c0, by rw [← HE.out]; rfl, by rw [← HE.out]; exact HO.out, HB.out⟩
end Go.Proofs.Ytckeepjfbpphaaa.ncm
