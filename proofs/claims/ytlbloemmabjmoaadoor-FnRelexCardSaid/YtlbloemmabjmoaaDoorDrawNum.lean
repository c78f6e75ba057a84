/-
  The verifier's drawing functions of chapter 1 (spec.l1New, l1PickInt, l1Num, l1Text, DrawVar, DrawHex, DrawReadVar): what each answers.
-/
import Derived.Test.YtlbloemmabjmoaaDoorDraw
import Derived.StillTactics
import Derived.Lib.Strings
namespace Go.Proofs.YtlbloemmabjmoaaDoor.draw
open Go.ChangeShapes Go.WideShapes Go.ChangeAt Go.RowKit
set_option linter.unusedVariables false

/-! ### A new cursor -/
def hF (zs : List Int) (len : Nat) : Int := (zs.take 4000).foldl (fun h z => (h * 131 + z + 7) % 1073741824) (10101 + (len : Int))
theorem hF_step (zs : List Int) (len I : Nat) (hI : I < zs.length) :
    (zs.take (I + 1)).foldl (fun h z => (h * 131 + z + 7) % 1073741824) (10101 + (len : Int)) = ((zs.take I).foldl (fun h z => (h * 131 + z + 7) % 1073741824) (10101 + (len : Int)) * 131 + zs.getD I 0 + 7) % 1073741824 := by
  rw [List.take_succ_eq_append_getElem hI, List.foldl_append, List.getD_eq_getElem?_getD, List.getElem?_eq_getElem hI]
  rfl

/-- The loop's relation. -/
def RelNew (zs : List Int) (len : Nat) (h i : Value) : Prop := ∃ (I : Nat) (x : Int), I ≤ len ∧ I ≤ 4000 ∧ i = .int .i64 I ∧ h = .int .i64 x ∧ 0 ≤ x ∧ x < 1099511627776 ∧ x = (zs.take I).foldl (fun h z => (h * 131 + z + 7) % 1073741824) (10101 + (len : Int))

set_option maxHeartbeats 400000 in
theorem new_any {B len cap : Nat} {w : World} {a : Option Addr} {zs : List Int} (hc : Code B w a len zs) (hB : B ≤ w.heap.size) (hl : len ≤ 1048576) :
    Calls Tryd.prog 32 #[.slice a len cap] w fun e w' => e = .returned (.pointer (some ⟨w.heap.size, 0, none⟩)) ∧ In B w' w.heap.size a len cap zs (0, hF zs len) ∧ Below B w w' := by
  have HC := Lib.hid hc
  have hz := hc.1
  have hm := i64_and30
  go_enter Tryd.func32, Tryd.ntmps32
  go_wp2
  go_loop [3, 4] (fun h i => RelNew zs len h i) (fun _ i => (len - (intOf i).toNat))
  case atStart => exact ⟨0, _, by omega, by omega, rfl, rfl, by omega, by omega, rfl⟩
  case round =>
    obtain ⟨I, x, hI, hI4, rfl, rfl, hx0, hx1, hx⟩ := hrel
    have HX := Lib.hid hx
    clear hx
    by_cases hlt : I < len ∧ I < 4000
    · obtain ⟨hll, hl4⟩ := hlt
      obtain ⟨b, o, rfl, hbB, hcell⟩ : ∃ b o, a = some ⟨b, o, none⟩ ∧ b < B ∧ ∀ j, j < len → w.cell? ⟨b, o + j, none⟩ = some (.int .u8 (zs.getD j 0)) := by
        rcases HC.out.2.2 with h0 | h0
        · omega
        · exact h0
      have hcx := hcell I hll
      have hzb : 0 ≤ zs.getD I 0 ∧ zs.getD I 0 < 256 := by
        have : I < zs.length := by omega
        rw [List.getD_eq_getElem?_getD, List.getElem?_eq_getElem this]
        exact HC.out.2.1 _ (List.getElem_mem this)
      have HS := Lib.hid (hF_step zs len I (by omega))
      obtain ⟨z, hzz⟩ : ∃ z, z = zs.getD I 0 := ⟨_, rfl⟩
      have HZZ := Lib.hid hzz
      rw [← hzz] at hcx hzb
      have hi1 : (I : Int) < (len : Int) := by omega
      have hi2 : (I : Int) < 4000 := by omega
      clear hcell hzz hz
      go_wp2
      go_round
      case rel => exact ⟨I + 1, _, by omega, by omega, by go_num, rfl, by omega, by omega, by rw [HS.out, ← HX.out, ← HZZ.out]⟩
      case measure => simp [intOf]; omega
    · have HH := Lib.hid (show x = hF zs len by
        rw [HX.out]
        unfold hF
        congr 1
        by_cases h : I < len
        · rw [show I = 4000 by omega]
        · rw [List.take_of_length_le (by omega), List.take_of_length_le (by omega)])
      have fin : In B (w.alloc (.cells #[.slice a len cap, .int .i64 0, .int .i64 x] 77)) w.heap.size a len cap zs (0, hF zs len) ∧ Below B w (w.alloc (.cells #[.slice a len cap, .int .i64 0, .int .i64 x] 77)) := by
        have hb : Below B w (w.alloc (.cells #[.slice a len cap, .int .i64 0, .int .i64 x] 77)) := (Below.refl B w).alloc hB _
        refine ⟨⟨HC.out.keep hb, ?_, hB, by simp, hl⟩, hb⟩
        rw [← HH.out]
        exact heap_alloc_new w _
      have FIN := Lib.hid fin
      clear fin hz
      by_cases hll : I < len
      · have hi1 : (I : Int) < (len : Int) := by omega
        have hi2 : ¬ (I : Int) < 4000 := by omega
        clear hlt
        go_wp2
        go_ret
        exact ⟨rfl, FIN.out⟩
      · have hi1 : ¬ (I : Int) < (len : Int) := by omega
        clear hlt
        go_wp2
        go_ret
        exact ⟨rfl, FIN.out⟩

/-! ### Picks -/
theorem once_any {B p len cap : Nat} {w : World} {a : Option Addr} {zs : List Int} {s : Nat × Int} (n : Int) (H : In B w p a len cap zs s) :
    Calls Tryd.prog 63 #[.pointer (some ⟨p, 0, none⟩), .int .i64 n] w (Out B p a len cap zs (.bool ((belowF zs n s).1 == 0)) (belowF zs n s).2 w) := by
  have HI := Lib.hid H
  clear H
  go_enter Tryd.func63, Tryd.ntmps63
  go_wp2_with fail
  refine (below_any n HI.out).mono ?_
  rintro e w1 ⟨rfl, I1, G1⟩
  have HI1 := Lib.hid I1
  clear I1
  go_wp2
  go_ret
  exact ⟨rfl, HI1.out, G1⟩


/-! ### A number -/
def limits : List Int := [-1, 0, 127, 128, 255, 256, 16383, 16384, 65535, 65536, 562949953421311, 562949953421312, 999999999, 1000000000, -999999999, 9223372036854775807, -9223372036854775808]
def numF (zs : List Int) (s : Nat × Int) : Int × (Nat × Int) :=
  let k := belowF zs 8 s
  if k.1 = 0 then let r := belowF zs 17 k.2; (limits.getD r.1.toNat 0, r.2)
  else if k.1 = 1 then let r := belowF zs 1000000000 k.2; let q := belowF zs 1000000000 r.2; (r.1 * q.1, q.2)
  else if k.1 = 2 then let r := belowF zs 100000 k.2; (-r.1, r.2)
  else belowF zs 70000 k.2

theorem limits_bd : ∀ k : Nat, -9223372036854775808 ≤ limits.getD k 0 ∧ limits.getD k 0 ≤ 9223372036854775807 := by
  intro k
  by_cases h : k < 17
  · have : ∀ k, k < 17 → -9223372036854775808 ≤ limits.getD k 0 ∧ limits.getD k 0 ≤ 9223372036854775807 := by decide +kernel
    exact this k h
  · have : limits.getD k 0 = 0 := by
      rw [List.getD_eq_getElem?_getD, List.getElem?_eq_none (by show 17 ≤ k; omega)]
      rfl
    omega

theorem prod_bd {x y : Int} (h1 : 0 ≤ x) (h2 : x < 1000000000) (h3 : 0 ≤ y) (h4 : y < 1000000000) : 0 ≤ x * y ∧ x * y ≤ 1000000000000000000 := by
  refine ⟨Int.mul_nonneg h1 h3, ?_⟩
  have := Int.mul_le_mul (Int.le_of_lt h2) (Int.le_of_lt h4) h3 (by omega : (0 : Int) ≤ 1000000000)
  omega

theorem numF_bd (zs : List Int) (s : Nat × Int) : -9223372036854775808 ≤ (numF zs s).1 ∧ (numF zs s).1 ≤ 9223372036854775807 := by
  unfold numF
  simp only
  split
  · exact limits_bd _
  · split
    · have h1 := belowF_bd zs 1000000000 (belowF zs 8 s).2 (by omega)
      have h2 := belowF_bd zs 1000000000 (belowF zs 1000000000 (belowF zs 8 s).2).2 (by omega)
      have := prod_bd h1.1 h1.2 h2.1 h2.2
      simp only
      omega
    · split
      · have h1 := belowF_bd zs 100000 (belowF zs 8 s).2 (by omega)
        simp only
        omega
      · have h1 := belowF_bd zs 70000 (belowF zs 8 s).2 (by omega)
        omega


/-! ### A text -/
def styled (k b : Int) : Int := if k = 1 then b % 2 else if k = 2 then 97 + b % 4 else b
def textLoop (zs : List Int) (k : Int) : Nat → Nat × Int → List UInt8 → List UInt8 × (Nat × Int)
  | 0, s, l => (l, s)
  | n + 1, s, l => textLoop zs k n (byteF zs s).2 (l ++ [UInt8.ofNat (styled k (byteF zs s).1).toNat])
def textF (zs : List Int) (most : Int) (s : Nat × Int) : List UInt8 × (Nat × Int) :=
  let k := belowF zs 4 s
  let n := belowF zs (most + 1) k.2
  textLoop zs k.1 n.1.toNat n.2 []

theorem styled_bd (k b : Int) (h0 : 0 ≤ b) (h1 : b < 256) : 0 ≤ styled k b ∧ styled k b < 256 := by
  unfold styled
  split
  · omega
  · split <;> omega

theorem textLoop_len (zs : List Int) (k : Int) : ∀ (n : Nat) (s : Nat × Int) (l : List UInt8), (textLoop zs k n s l).1.length = l.length + n
  | 0, s, l => rfl
  | n + 1, s, l => by
    unfold textLoop
    rw [textLoop_len zs k n]
    simp
    omega

theorem textF_len (zs : List Int) (most : Int) (s : Nat × Int) (h : 0 ≤ most) : ((textF zs most s).1.length : Int) ≤ most := by
  unfold textF
  simp only
  rw [textLoop_len]
  have := belowF_bd zs (most + 1) (belowF zs 4 s).2 (by omega)
  simp
  omega

theorem In.keep {B base p len cap : Nat} {w w' : World} {a : Option Addr} {zs : List Int} {s : Nat × Int} (H : In B w p a len cap zs s) (hb : Below base w w') (hp : p < base) : In B w' p a len cap zs s :=
  ⟨H.code.keep (hb.mono (Nat.le_of_lt (Nat.lt_of_le_of_lt H.le hp))), by unfold Cur; rw [hb.block p hp]; exact H.cur, H.le, H.used, H.small⟩

theorem own_ne {w : World} {base e size n p : Nat} {v : Value} {xs : List Value} (h : w.ownsRow base e size v n xs) (hp : p < base) : v.ownBlock = none ∨ v.ownBlock ≠ some p := by
  rcases h.2 with ⟨rfl, _⟩ | ⟨g, cap, cur, rfl, hb, _⟩
  · exact .inl rfl
  · refine .inr ?_
    simp [Value.ownBlock]
    omega

theorem grown_below {w w1 w2 : World} {p base : Nat} (h : w.grownBy w1 (some p)) (hb : Below base w1 w2) (hw : base = w.heap.size) : w.grownBy w2 (some p) :=
  ⟨hb.os.trans h.os, hb.tape.trans h.tape, hb.output.trans h.output, Nat.le_trans h.size hb.size, fun k hk hne => (hb.block k (by omega)).trans (h.block k hk hne)⟩

/-- The loop's relation. -/
def RelText (B p : Nat) (a : Option Addr) (len cap : Nat) (zs : List Int) (k : Int) (R : List UInt8 × (Nat × Int)) (W : World) (v m : Value) (wr : World) : Prop :=
  ∃ (n : Nat) (s : Nat × Int) (l : List UInt8), m = .int .i64 n ∧ textLoop zs k n s l = R ∧ In B wr p a len cap zs s ∧ wr.ownsRow W.heap.size 5 1 v l.length (cellsOf l) ∧ W.grownBy wr (some p) ∧ l.length + n ≤ 10000

set_option maxRecDepth 100000 in
set_option maxHeartbeats 1600000 in
theorem text_any {B p len cap : Nat} {w : World} {a : Option Addr} {zs : List Int} {s : Nat × Int} (most : Int) (h0 : 0 ≤ most) (h1 : most ≤ 1000) (H : In B w p a len cap zs s) :
    Calls Tryd.prog 108 #[.pointer (some ⟨p, 0, none⟩), .int .i64 most] w (Out B p a len cap zs (.string ⟨(textF zs most s).1.toArray⟩) (textF zs most s).2 w) := by
  have hpw := H.lt
  have HI := Lib.hid H
  clear H
  obtain ⟨R, hR⟩ : ∃ R, R = textF zs most s := ⟨_, rfl⟩
  obtain ⟨k, hk⟩ : ∃ k, k = belowF zs 4 s := ⟨_, rfl⟩
  obtain ⟨x, hx⟩ : ∃ x, x = belowF zs (most + 1) k.2 := ⟨_, rfl⟩
  have HR := Lib.hid (show textLoop zs k.1 x.1.toNat x.2 [] = R by subst hR hx hk; rfl)
  have bx := belowF_bd zs (most + 1) k.2 (by omega)
  rw [← hx] at bx
  have HE := Lib.hid hR
  have HK := Lib.hid hk
  have HX := Lib.hid hx
  clear hR hk hx
  obtain ⟨x1, x2⟩ := x
  obtain ⟨n0, rfl⟩ : ∃ n0 : Nat, x1 = n0 := ⟨x1.toNat, by omega⟩
  go_enter Tryd.func108, Tryd.ntmps108
  go_wp2_with fail
  have I0 : In B (w.alloc (.cells #[] 5)) p a len cap zs s := HI.out.keep ((Below.refl w.heap.size w).alloc (Nat.le_refl _) _) hpw
  refine (below_any 4 I0).mono ?_
  rintro e w1 ⟨he, I1, G1⟩
  rw [← HK.out] at he I1
  subst he
  have HI1 := Lib.hid I1
  clear I1 I0
  go_wp2_with fail
  refine (below_any (most + 1) HI1.out).mono ?_
  rintro e w2 ⟨he, I2, G2⟩
  rw [← HX.out] at he I2
  subst he
  have HI2 := Lib.hid I2
  clear I2
  have hown0 : w2.ownsRow w.heap.size 5 1 (.slice (some ⟨w.heap.size, 0, none⟩) 0 0) 0 (cellsOf []) :=
    ((own_empty w _ (Nat.le_refl _)).kept G1 (.inr (by simp [Value.ownBlock]; omega))).kept G2 (.inr (by simp [Value.ownBlock]; omega))
  have hg0 : w.grownBy w2 (some p) := grown_trans (World.grownBy_alloc w _ _) (grown_trans G1 G2)
  clear G1 G2
  go_wp2
  go_loopw [5, 7, 8] (fun v m _ wr => RelText B p a len cap zs k.1 R w v m wr) (fun _ m _ _ => (intOf m).toNat)
  case atStart => exact ⟨n0, x2, [], rfl, by have := HR.out; simpa using this, HI2.out, hown0, hg0, by simp; omega⟩
  case round =>
    clear hown0 hg0
    obtain ⟨n, st, l, rfl, hl, hin, hown, hgr, hlen⟩ := hrel
    have HL := Lib.hid hl
    have HIN := Lib.hid hin
    have hsz := hgr.size
    clear hl hin
    by_cases hn : n = 0
    · subst hn
      have kc := conv_own wr w.heap.size _ l.length l rfl hown
      clear hown
      go_wp2
      go_ret
      have e : R = (l, st) := HL.out.symm
      exact ⟨by rw [← HE.out, e]; rfl, by rw [← HE.out, e]; exact HIN.out, hgr⟩
    · obtain ⟨m, rfl⟩ : ∃ m : Nat, n = m + 1 := ⟨n - 1, by omega⟩
      have hb := byteF_bd zs st
      obtain ⟨y, hy⟩ : ∃ y, y = byteF zs st := ⟨_, rfl⟩
      rw [← hy] at hb
      have HL2 := Lib.hid (show textLoop zs k.1 m y.2 (l ++ [UInt8.ofNat (styled k.1 y.1).toNat]) = R by rw [hy]; exact HL.out)
      have HY := Lib.hid hy
      clear hy hn
      by_cases k1 : k.1 = 1
      · have t1 : (k.1 == 1) = true := by rw [beq_iff_eq]; exact k1
        have t2 : (k.1 == 2) = false := by rw [beq_eq_false_iff_ne]; omega
        have HS := Lib.hid (show styled k.1 y.1 = y.1 % 2 by simp [styled, k1])
        clear k1
        go_wp2_with fail
        refine (byte_any HIN.out).mono ?_
        rintro e w3 ⟨he, I3, G3⟩
        rw [← HY.out] at he I3
        subst he
        have HI3 := Lib.hid I3
        have hown3 := hown.kept G3 (own_ne hown hpw)
        have hsz3 := G3.size
        clear I3 hown
        go_wp2_with (at_builtin; refine wpList_append_byte w3 (y.1 % 2) rfl _ _ rfl w.heap.size _ l.length l rfl hown3 (by omega) (by omega) rfl (by omega) (by omega) ?_; intro v' w4 hown4 hbel4)
        go_roundw
        case rel => exact ⟨m, y.2, _, by go_num, HL2.out, HI3.out.keep ((by assumption : ∀ W0, Below w.heap.size W0 w3 → Below w.heap.size W0 _) _ (Below.refl _ _)) hpw, by rw [HS.out, List.length_append]; exact (by assumption : World.ownsRow _ _ _ _ _ (l.length + 1) _), grown_below (grown_trans hgr G3) ((by assumption : ∀ W0, Below w.heap.size W0 w3 → Below w.heap.size W0 _) _ (Below.refl _ _)) rfl, by rw [List.length_append]; simp; omega⟩
        case measure => simp [intOf]
      · by_cases k2 : k.1 = 2
        · have t1 : (k.1 == 1) = false := by rw [beq_eq_false_iff_ne]; exact k1
          have t2 : (k.1 == 2) = true := by rw [beq_iff_eq]; exact k2
          have HS := Lib.hid (show styled k.1 y.1 = 97 + y.1 % 4 by simp [styled, k2])
          clear k1 k2
          go_wp2_with fail
          refine (byte_any HIN.out).mono ?_
          rintro e w3 ⟨he, I3, G3⟩
          rw [← HY.out] at he I3
          subst he
          have HI3 := Lib.hid I3
          have hown3 := hown.kept G3 (own_ne hown hpw)
          have hsz3 := G3.size
          clear I3 hown
          go_wp2_with (at_builtin; refine wpList_append_byte w3 (97 + y.1 % 4) rfl _ _ rfl w.heap.size _ l.length l rfl hown3 (by omega) (by omega) rfl (by omega) (by omega) ?_; intro v' w4 hown4 hbel4)
          go_roundw
          case rel => exact ⟨m, y.2, _, by go_num, HL2.out, HI3.out.keep ((by assumption : ∀ W0, Below w.heap.size W0 w3 → Below w.heap.size W0 _) _ (Below.refl _ _)) hpw, by rw [HS.out, List.length_append]; exact (by assumption : World.ownsRow _ _ _ _ _ (l.length + 1) _), grown_below (grown_trans hgr G3) ((by assumption : ∀ W0, Below w.heap.size W0 w3 → Below w.heap.size W0 _) _ (Below.refl _ _)) rfl, by rw [List.length_append]; simp; omega⟩
          case measure => simp [intOf]
        · have t1 : (k.1 == 1) = false := by rw [beq_eq_false_iff_ne]; exact k1
          have t2 : (k.1 == 2) = false := by rw [beq_eq_false_iff_ne]; exact k2
          have HS := Lib.hid (show styled k.1 y.1 = y.1 by simp [styled, k1, k2])
          clear k1 k2
          go_wp2_with fail
          refine (byte_any HIN.out).mono ?_
          rintro e w3 ⟨he, I3, G3⟩
          rw [← HY.out] at he I3
          subst he
          have HI3 := Lib.hid I3
          have hown3 := hown.kept G3 (own_ne hown hpw)
          have hsz3 := G3.size
          clear I3 hown
          go_wp2_with (at_builtin; refine wpList_append_byte w3 y.1 rfl _ _ rfl w.heap.size _ l.length l rfl hown3 (by omega) (by omega) rfl (by omega) (by omega) ?_; intro v' w4 hown4 hbel4)
          go_roundw
          case rel => exact ⟨m, y.2, _, by go_num, HL2.out, HI3.out.keep ((by assumption : ∀ W0, Below w.heap.size W0 w3 → Below w.heap.size W0 _) _ (Below.refl _ _)) hpw, by rw [HS.out, List.length_append]; exact (by assumption : World.ownsRow _ _ _ _ _ (l.length + 1) _), grown_below (grown_trans hgr G3) ((by assumption : ∀ W0, Below w.heap.size W0 w3 → Below w.heap.size W0 _) _ (Below.refl _ _)) rfl, by rw [List.length_append]; simp; omega⟩
          case measure => simp [intOf]
end Go.Proofs.YtlbloemmabjmoaaDoor.draw
