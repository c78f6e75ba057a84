/-
  The verifier's spec.DrawVar, DrawHex, DrawReadVar: what each answers, as a plain function of the bytes that came in.
-/
import Derived.Test.YtjphfigfmbgmkaaDoorDrawRest
namespace Go.Proofs.YtjphfigfmbgmkaaDoor.draw
open Go.ChangeShapes Go.WideShapes Go.ChangeAt Go.RowKit
set_option linter.unusedVariables false

def drawVar (zs : List Int) : Int := (numF zs (0, hF zs zs.length)).1
def drawHex (zs : List Int) : ByteArray := ⟨(textF zs 40 (0, hF zs zs.length)).1.toArray⟩
def drawReadVar (zs : List Int) : ByteArray :=
  let n := numF zs (0, hF zs zs.length)
  let t := textF zs 4 n.2
  let s : ByteArray := var.varS n.1 ++ ⟨t.1.toArray⟩
  let k := belowF zs 4 t.2
  if k.1 = 0 then (spoilF zs s k.2).1 else s

theorem var_len (n : Int) : (var.varS n).size ≤ 10 := by
  unfold var.varS
  split
  · rw [size_of_list]
    have : ∀ (f : Nat) (n : Int), (var.vr f n).length ≤ f + 1 := by
      intro f
      induction f with
      | zero => intro n; simp [var.vr]
      | succ f ih =>
        intro n
        unfold var.vr
        split
        · simp
        · have := ih (n / 128)
          simp
          omega
    exact this 9 n
  · simp [ByteArray.size]

theorem drawHex_len (zs : List Int) : (drawHex zs).size ≤ 40 := by
  unfold drawHex
  rw [size_of_list]
  have := textF_len zs 40 (0, hF zs zs.length) (by omega)
  omega

theorem base_len (zs : List Int) (n : Int) (s : Nat × Int) : (var.varS n ++ (⟨(textF zs 4 s).1.toArray⟩ : ByteArray)).size ≤ 14 := by
  have e : (⟨(textF zs 4 s).1.toArray⟩ : ByteArray).size = (textF zs 4 s).1.length := size_of_list _
  rw [ByteArray.size_append, e]
  have h1 := var_len n
  have h2 := textF_len zs 4 s (by omega)
  omega

theorem drawReadVar_len (zs : List Int) : (drawReadVar zs).size ≤ 100 := by
  unfold drawReadVar
  simp only
  have h1 := base_len zs (numF zs (0, hF zs zs.length)).1 (numF zs (0, hF zs zs.length)).2
  split
  · have h2 := spoilF_len zs (var.varS (numF zs (0, hF zs zs.length)).1 ++ ⟨(textF zs 4 (numF zs (0, hF zs zs.length)).2).1.toArray⟩) (belowF zs 4 (textF zs 4 (numF zs (0, hF zs zs.length)).2).2).2
    omega
  · omega

theorem drawVar_any {B len cap : Nat} {w : World} {a : Option Addr} {zs : List Int} (hc : Code B w a len zs) (hB : B ≤ w.heap.size) (hl : len ≤ 1048576) :
    Calls Tryd.prog 7 #[.slice a len cap] w fun e w' => e = .returned (.int .i64 (drawVar zs)) ∧ Below B w w' := by
  have HC := Lib.hid hc
  have HL := Lib.hid hc.1
  clear hc
  go_enter Tryd.func7, Tryd.ntmps7
  go_wp2_with fail
  refine (new_any HC.out hB hl).mono ?_
  rintro e w1 ⟨rfl, I1, b1⟩
  have HI1 := Lib.hid I1
  clear I1
  go_wp2_with fail
  refine (num_any HI1.out).mono ?_
  rintro e w2 ⟨rfl, I2, G2⟩
  clear I2
  go_wp2
  go_ret
  exact ⟨by rw [← HL.out]; rfl, b1.trans (below_of G2 HI1.out.le (Nat.le_of_lt (Nat.lt_of_le_of_lt HI1.out.le HI1.out.lt)))⟩

theorem drawHex_any {B len cap : Nat} {w : World} {a : Option Addr} {zs : List Int} (hc : Code B w a len zs) (hB : B ≤ w.heap.size) (hl : len ≤ 1048576) :
    Calls Tryd.prog 8 #[.slice a len cap] w fun e w' => e = .returned (.string (drawHex zs)) ∧ Below B w w' := by
  have HC := Lib.hid hc
  have HL := Lib.hid hc.1
  clear hc
  go_enter Tryd.func8, Tryd.ntmps8
  go_wp2_with fail
  refine (new_any HC.out hB hl).mono ?_
  rintro e w1 ⟨rfl, I1, b1⟩
  have HI1 := Lib.hid I1
  clear I1
  go_wp2_with fail
  refine (text_any 40 (by omega) (by omega) HI1.out).mono ?_
  rintro e w2 ⟨rfl, I2, G2⟩
  clear I2
  go_wp2
  go_ret
  exact ⟨by rw [← HL.out]; rfl, b1.trans (below_of G2 HI1.out.le (Nat.le_of_lt (Nat.lt_of_le_of_lt HI1.out.le HI1.out.lt)))⟩

set_option maxHeartbeats 800000 in
theorem drawReadVar_any {B len cap : Nat} {w : World} {a : Option Addr} {zs : List Int} (hc : Code B w a len zs) (hB : B ≤ w.heap.size) (hl : len ≤ 1048576) :
    Calls Tryd.prog 17 #[.slice a len cap] w fun e w' => e = .returned (.string (drawReadVar zs)) ∧ Below B w w' := by
  have HC := Lib.hid hc
  have hz := hc.1
  clear hc
  obtain ⟨n, hn⟩ : ∃ n, n = numF zs (0, hF zs len) := ⟨_, rfl⟩
  obtain ⟨t, htt⟩ : ∃ t, t = textF zs 4 n.2 := ⟨_, rfl⟩
  obtain ⟨k, hk⟩ : ∃ k, k = belowF zs 4 t.2 := ⟨_, rfl⟩
  obtain ⟨v, hv⟩ : ∃ v, v = var.varS n.1 := ⟨_, rfl⟩
  obtain ⟨tb, htb⟩ : ∃ tb : ByteArray, tb = ⟨t.1.toArray⟩ := ⟨_, rfl⟩
  have HD := Lib.hid (show drawReadVar zs = if k.1 = 0 then (spoilF zs (v ++ tb) k.2).1 else v ++ tb by rw [hk, hv, htb, htt, hn, ← hz]; rfl)
  have hlen : (v ++ tb).size ≤ 14 := by rw [hv, htb, htt]; exact base_len zs n.1 n.2
  have ka := fun w => run_string_add_sum (P := Tryd.prog) (w := w) v tb (by rw [ByteArray.size_append] at hlen; omega)
  have HN := Lib.hid hn
  have HT := Lib.hid htt
  have HK := Lib.hid hk
  have HV := Lib.hid hv
  have HB := Lib.hid htb
  clear hn htt hk hv htb hz
  go_enter Tryd.func17, Tryd.ntmps17
  go_wp2_with fail
  refine (new_any HC.out hB hl).mono ?_
  rintro e w1 ⟨rfl, I1, b1⟩
  have HI1 := Lib.hid I1
  clear I1
  go_wp2_with fail
  refine (num_any HI1.out).mono ?_
  rintro e w2 ⟨he, I2, G2⟩
  rw [← HN.out] at he I2
  subst he
  have HI2 := Lib.hid I2
  have hsz2 := HI2.out.lt
  clear I2
  go_wp2_with fail
  refine (var.any _ n.1 _ (.inl rfl)).mono ?_
  rintro e w3 ⟨he, b3⟩
  rw [← HV.out] at he
  subst he
  have HI3 := Lib.hid (HI2.out.keep b3 hsz2)
  go_wp2_with fail
  refine (text_any 4 (by omega) (by omega) HI3.out).mono ?_
  rintro e w4 ⟨he, I4, G4⟩
  rw [← HT.out, ← HB.out] at he
  rw [← HT.out] at I4
  subst he
  have HI4 := Lib.hid I4
  clear I4
  have HG := Lib.hid (b1.trans ((below_of G2 HI1.out.le (Nat.le_of_lt (Nat.lt_of_le_of_lt HI1.out.le HI1.out.lt))).trans ((b3.mono (Nat.le_of_lt (Nat.lt_of_le_of_lt HI2.out.le hsz2))).trans (below_of G4 HI3.out.le (Nat.le_of_lt (Nat.lt_of_le_of_lt HI3.out.le HI3.out.lt))))))
  clear G2 G4 b3 hsz2
  go_wp2_with fail
  refine (once_any 4 HI4.out).mono ?_
  rintro e w5 ⟨he, I5, G5⟩
  rw [← HK.out] at he I5
  have HI5 := Lib.hid I5
  clear I5
  have HG5 := Lib.hid (HG.out.trans (below_of G5 HI4.out.le (Nat.le_of_lt (Nat.lt_of_le_of_lt HI4.out.le HI4.out.lt))))
  clear G5
  by_cases k0 : k.1 = 0
  · rw [show (k.1 == 0) = true by rw [beq_iff_eq]; exact k0] at he
    subst he
    have HE := Lib.hid (show drawReadVar zs = (spoilF zs (v ++ tb) k.2).1 by rw [HD.out, if_pos k0])
    clear k0
    go_wp2_with fail
    refine (spoil_any (v ++ tb) (by omega) HI5.out).mono ?_
    rintro e w6 ⟨rfl, I6, G6⟩
    clear I6
    go_wp2
    go_ret
    exact ⟨by rw [HE.out]; rfl, HG5.out.trans (below_of G6 HI5.out.le (Nat.le_of_lt (Nat.lt_of_le_of_lt HI5.out.le HI5.out.lt)))⟩
  · rw [show (k.1 == 0) = false by rw [beq_eq_false_iff_ne]; exact k0] at he
    subst he
    have HE := Lib.hid (show drawReadVar zs = v ++ tb by rw [HD.out, if_neg k0])
    clear k0
    go_wp2
    go_ret
    exact ⟨by rw [HE.out]; rfl, HG5.out⟩
end Go.Proofs.YtjphfigfmbgmkaaDoor.draw
