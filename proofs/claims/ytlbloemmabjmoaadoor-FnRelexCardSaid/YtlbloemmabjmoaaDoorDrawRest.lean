/-
  The verifier's drawing functions of chapter 1: spec.l1Spoil, DrawVar, DrawHex, DrawReadVar: what each answers.
-/
import Derived.Test.YtlbloemmabjmoaaDoorDrawNum
import Derived.Deep.RegionWith
import Derived.IntWalk
import Derived.Deep.RegionHeld3
namespace Go.Proofs.YtlbloemmabjmoaaDoor.draw
open Go.ChangeShapes Go.WideShapes Go.ChangeAt Go.RowKit
set_option linter.unusedVariables false

theorem size_of_list (l : List UInt8) : (⟨l.toArray⟩ : ByteArray).size = l.length := by simp [ByteArray.size]
theorem In.drew {B p len cap : Nat} {w : World} {a : Option Addr} {zs : List Int} {s : Nat × Int} (H : In B w p a len cap zs s) : In B w.drew p a len cap zs s :=
  ⟨H.code.keep ⟨rfl, rfl, rfl, Nat.le_refl _, fun _ _ => rfl⟩, H.cur, H.le, H.used, H.small⟩

theorem In.over {B p len cap : Nat} {w : World} {a : Option Addr} {zs : List Int} {s : Nat × Int} {o : Obj} (H : In B w p a len cap zs s) : In B (w.alloc o) p a len cap zs s :=
  H.keep ((Below.refl w.heap.size w).alloc (Nat.le_refl _) _) H.lt
theorem grown_over {w w1 : World} {p : Nat} {o : Obj} (h : w.drew.grownBy w1 (some p)) : w.grownBy (w1.alloc o) (some p) :=
  grown_trans (b := w1) ⟨h.os, h.tape, h.output, h.size, h.block⟩ (World.grownBy_alloc w1 o _)

/-- The byte of a number. -/
def oneB (x : Int) : ByteArray := ⟨#[UInt8.ofNat x.toNat]⟩
theorem oneB_size (x : Int) : (oneB x).size = 1 := rfl
theorem conv_oneB (w : World) (x : Int) (h0 : 0 ≤ x) (h1 : x < 256) :
    (convert 22 9 (.slice (some ⟨w.heap.size, 0, none⟩) 1 1)).run Tryd.prog (w.alloc (.cells #[.int .u8 x] 5)) = .ok (.string (oneB x)) (w.alloc (.cells #[.int .u8 x] 5)) := conv_one w x h0 h1

def mixed (c : UInt8) (b : Int) : Int := bits .xor .i64 (c.toNat : Int) (1 + b) % 256
def spoilF (zs : List Int) (t : ByteArray) (s : Nat × Int) : ByteArray × (Nat × Int) :=
  if t.size = 0 then (⟨(textF zs 3 s).1.toArray⟩, (textF zs 3 s).2)
  else
    let k := belowF zs t.size s
    let c := belowF zs 4 k.2
    let K := k.1.toNat
    if c.1 = 0 then (t.extract 0 K ++ t.extract (K + 1) t.size, c.2)
    else if c.1 = 1 then let b := byteF zs c.2; (t.extract 0 K ++ oneB b.1 ++ t.extract K t.size, b.2)
    else if c.1 = 2 then (t.extract 0 K, c.2)
    else let b := belowF zs 255 c.2; (t.extract 0 K ++ oneB (mixed (t.data.toList.getD K 0) b.1) ++ t.extract (K + 1) t.size, b.2)

theorem ext_size (t : ByteArray) (i j : Nat) : (t.extract i j).size ≤ t.size := by
  simp [ByteArray.size_extract]
  omega

theorem spoilF_len (zs : List Int) (t : ByteArray) (s : Nat × Int) : (spoilF zs t s).1.size ≤ 2 * t.size + 3 := by
  unfold spoilF
  split
  · have := textF_len zs 3 s (by omega)
    have e : (⟨(textF zs 3 s).1.toArray⟩ : ByteArray).size = (textF zs 3 s).1.length := size_of_list _
    simp only
    omega
  · simp only
    have h1 := ext_size t 0 (belowF zs t.size s).1.toNat
    have h2 := ext_size t ((belowF zs t.size s).1.toNat + 1) t.size
    have h3 := ext_size t (belowF zs t.size s).1.toNat t.size
    split
    · simp only [ByteArray.size_append]; omega
    · split
      · simp only [ByteArray.size_append, oneB_size]; omega
      · split
        · simp only; omega
        · simp only [ByteArray.size_append, oneB_size]; omega

theorem getB (t : ByteArray) (i : Nat) (h : i < t.size) : t.data.toList.getD i 0 = t[i] := by
  have : i < t.data.size := h
  rw [List.getD_eq_getElem?_getD]
  simp only [Array.getElem?_toList, Array.getElem?_eq_getElem this]
  rfl

set_option maxRecDepth 100000 in
set_option maxHeartbeats 3200000 in
theorem spoil_any {B p len cap : Nat} {w : World} {a : Option Addr} {zs : List Int} {s : Nat × Int} (t : ByteArray) (ht : t.size ≤ 10000) (H : In B w p a len cap zs s) :
    Calls Tryd.prog 80 #[.pointer (some ⟨p, 0, none⟩), .string t] w (Out B p a len cap zs (.string (spoilF zs t s).1) (spoilF zs t s).2 w) := by
  have HI := Lib.hid H
  clear H
  by_cases hz : t.size = 0
  · have hz' : ((t.size : Int) == 0) = true := by rw [beq_iff_eq]; omega
    have HZ := Lib.hid (show spoilF zs t s = (⟨(textF zs 3 s).1.toArray⟩, (textF zs 3 s).2) by simp [spoilF, hz])
    clear hz
    go_enter Tryd.func80, Tryd.ntmps80
    go_wp2_with fail
    refine (text_any 3 (by omega) (by omega) HI.out).mono ?_
    rintro e w1 ⟨rfl, I1, G1⟩
    have HI1 := Lib.hid I1
    clear I1
    go_wp2
    go_ret
    exact ⟨by rw [HZ.out]; rfl, by rw [HZ.out]; exact HI1.out, G1⟩
  · have hz' : ((t.size : Int) == 0) = false := by rw [beq_eq_false_iff_ne]; omega
    obtain ⟨k, hk⟩ : ∃ k, k = belowF zs t.size s := ⟨_, rfl⟩
    obtain ⟨c, hc⟩ : ∃ c, c = belowF zs 4 k.2 := ⟨_, rfl⟩
    have bk := belowF_bd zs t.size s (by omega)
    rw [← hk] at bk
    have HK := Lib.hid hk
    have HC := Lib.hid hc
    have HSP := Lib.hid (show spoilF zs t s = (let K := k.1.toNat
      if c.1 = 0 then (t.extract 0 K ++ t.extract (K + 1) t.size, c.2)
      else if c.1 = 1 then let b := byteF zs c.2; (t.extract 0 K ++ oneB b.1 ++ t.extract K t.size, b.2)
      else if c.1 = 2 then (t.extract 0 K, c.2)
      else let b := belowF zs 255 c.2; (t.extract 0 K ++ oneB (mixed (t.data.toList.getD K 0) b.1) ++ t.extract (K + 1) t.size, b.2)) by subst hc hk; simp [spoilF, hz])
    clear hk hc
    obtain ⟨k1, k2⟩ := k
    obtain ⟨K, rfl⟩ : ∃ K : Nat, k1 = K := ⟨k1.toNat, by simp only at bk; omega⟩
    simp only at bk
    have hK1 : (K : Int) ≤ (t.size : Int) := by omega
    have hK2 : (K : Int) + 1 ≤ (t.size : Int) := by omega
    have hK3 : (K : Int) < (t.size : Int) := by omega
    have hK0 : (0 : Int) ≤ (K : Int) := by omega
    have hKn : K < t.size := by omega
    have s1 := ext_size t 0 K
    have s2 := ext_size t (K + 1) t.size
    have s3 := ext_size t K t.size
    go_enter Tryd.func80, Tryd.ntmps80
    go_wp2_with fail
    refine (below_any t.size HI.out).mono ?_
    rintro e w1 ⟨he, I1, G1⟩
    rw [← HK.out] at he I1
    subst he
    have HI1 := Lib.hid I1
    clear I1
    go_wp2_with fail
    refine (below_any 4 HI1.out).mono ?_
    rintro e w2 ⟨he, I2, G2⟩
    rw [← HC.out] at he I2
    subst he
    have HI2 := Lib.hid I2
    clear I2
    have HG := Lib.hid (grown_trans G1 G2)
    clear G1 G2
    by_cases c0 : c.1 = 0
    · have HZ := Lib.hid (show spoilF zs t s = (t.extract 0 K ++ t.extract (K + 1) t.size, c.2) by rw [HSP.out]; simp [c0])
      have t0 : (c.1 == 0) = true := by rw [beq_iff_eq]; exact c0
      have ka := fun w => run_string_add_sum (P := Tryd.prog) (w := w) (t.extract 0 K) (t.extract (K + 1) t.size) (by omega)
      clear c0 HSP
      go_wp2
      go_quiet (fail)
      go_wp2
      go_ret
      exact ⟨by rw [HZ.out]; rfl, by rw [HZ.out]; exact HI2.out.drewN _, grown_drewN HG.out _⟩
    · have t0 : (c.1 == 0) = false := by rw [beq_eq_false_iff_ne]; exact c0
      by_cases c1 : c.1 = 1
      · have t1 : (c.1 == 1) = true := by rw [beq_iff_eq]; exact c1
        obtain ⟨y, hy⟩ : ∃ y, y = byteF zs c.2 := ⟨_, rfl⟩
        have hb := byteF_bd zs c.2
        rw [← hy] at hb
        have HZ := Lib.hid (show spoilF zs t s = (t.extract 0 K ++ oneB y.1 ++ t.extract K t.size, y.2) by rw [HSP.out, hy]; simp [c1])
        have HY := Lib.hid hy
        have ka := fun w => run_string_add_sum (P := Tryd.prog) (w := w) (t.extract 0 K) (oneB y.1) (by rw [oneB_size]; omega)
        have kb := fun w => run_string_add_sum (P := Tryd.prog) (w := w) (t.extract 0 K ++ oneB y.1) (t.extract K t.size) (by rw [ByteArray.size_append, oneB_size]; omega)
        have kc := fun w => conv_oneB w y.1 hb.1 hb.2
        have kw : IntKind.u8.wrap y.1 = y.1 := by rw [IntKind.wrap_u8]; omega
        clear c0 c1 HSP hy
        go_wp2
        go_region_with (go_at_call 93; refine (byte_any (HI2.out.drew)).mono ?_; rintro e w3 ⟨he, I3, G3⟩; rw [← HY.out] at he I3; subst he)
        all_goals
          clear kw kc ka kb
          go_wp2
          go_ret
          exact ⟨by rw [HZ.out]; rfl, by rw [HZ.out]; exact (In.over (by assumption)), grown_trans HG.out (grown_over (by assumption))⟩
      · have t1 : (c.1 == 1) = false := by rw [beq_eq_false_iff_ne]; exact c1
        by_cases c2 : c.1 = 2
        · have t2 : (c.1 == 2) = true := by rw [beq_iff_eq]; exact c2
          have HZ := Lib.hid (show spoilF zs t s = (t.extract 0 K, c.2) by rw [HSP.out]; simp [c2])
          clear c0 c1 c2 HSP
          go_wp2
          go_ret
          exact ⟨by rw [HZ.out]; rfl, by rw [HZ.out]; exact HI2.out, HG.out⟩
        · have t2 : (c.1 == 2) = false := by rw [beq_eq_false_iff_ne]; exact c2
          obtain ⟨y, hy⟩ : ∃ y, y = belowF zs 255 c.2 := ⟨_, rfl⟩
          have hb := belowF_bd zs 255 c.2 (by omega)
          rw [← hy] at hb
          have HZ := Lib.hid (show spoilF zs t s = (t.extract 0 K ++ oneB (mixed t[K] y.1) ++ t.extract (K + 1) t.size, y.2) by rw [HSP.out, hy, ← getB t K hKn]; simp [c0, c1, c2])
          have HY := Lib.hid hy
          have hm : 0 ≤ mixed t[K] y.1 ∧ mixed t[K] y.1 < 256 := by unfold mixed; omega
          obtain ⟨m, hmm⟩ : ∃ m, m = mixed t[K] y.1 := ⟨_, rfl⟩
          rw [← hmm] at hm
          have HM := Lib.hid hmm
          have kx : bits .xor .i64 (t[K].toNat : Int) (1 + y.1) % 256 = m := hmm.symm
          have kw : IntKind.u8.wrap (bits .xor .i64 (t[K].toNat : Int) (1 + y.1)) = m := by rw [IntKind.wrap_u8]; exact hmm.symm
          have ki : IntKind.i64.wrap (t[K].toNat : Int) = (t[K].toNat : Int) := IntWalk.i64_in _ (by have := t[K].toNat_lt; omega)
          have kp : IntKind.i64.wrap (1 + y.1) = 1 + y.1 := IntWalk.i64_in _ (by omega)
          have kk : IntKind.i64.wrap ((K : Int) + 1) = (K : Int) + 1 := IntWalk.i64_in _ (by omega)
          have ka := fun w => run_string_add_sum (P := Tryd.prog) (w := w) (t.extract 0 K) (oneB m) (by rw [oneB_size]; omega)
          have kb := fun w => run_string_add_sum (P := Tryd.prog) (w := w) (t.extract 0 K ++ oneB m) (t.extract (K + 1) t.size) (by rw [ByteArray.size_append, oneB_size]; omega)
          have kc := fun w => conv_oneB w m hm.1 hm.2
          clear c0 c1 c2 HSP hy hmm
          go_wp2
          go_region_with (go_at_call 61; refine (below_any 255 (HI2.out.drew)).mono ?_; rintro e w3 ⟨he, I3, G3⟩; rw [← HY.out] at he I3; subst he)
          all_goals
            clear kw kc ka kb kx ki kp kk
            go_wp2
            go_ret
            exact ⟨by rw [HZ.out, ← HM.out]; rfl, by rw [HZ.out]; exact (In.over (by assumption)), grown_trans HG.out (grown_over (by assumption))⟩
end Go.Proofs.YtlbloemmabjmoaaDoor.draw
