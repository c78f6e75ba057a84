/-
  Spell of both sides: the tokens' texts with a space where one is needed ('sp', 'spellB'): contracts.
-/
import Derived.Test.YtlbloemmabjmoaaDoorGapSpec
import Derived.Test.YtlbloemmabjmoaaDoorBuilder
import Derived.Test.YtlbloemmabjmoaaDoorLexWord
namespace Go.Proofs.YtlbloemmabjmoaaDoor.spelled
open Go.ChangeShapes Go.WideShapes Go.ChangeAt Go.RowKit
open tk
open gap (needsGap)
open lex (B3)
open spell (Held)
set_option linter.unusedVariables false

def gapB : Option Tk → Tk → List UInt8
  | none, _ => []
  | some p, t => if needsGap p t = true then [32] else []
def sp (p : Option Tk) : List Tk → List UInt8
  | [] => []
  | t :: l => gapB p t ++ (t.s.data.toList ++ sp (some t) l)
def spellB (l : List Tk) : ByteArray := ⟨(sp none l).toArray⟩
theorem gap_len (p : Option Tk) (t : Tk) : (gapB p t).length ≤ 1 := by
  cases p with
  | none => exact Nat.zero_le 1
  | some p =>
    show (if needsGap p t = true then [(32 : UInt8)] else []).length ≤ 1
    split <;> decide
theorem sp_len (l : List Tk) : ∀ p, (sp p l).length ≤ l.length + tot l := by
  induction l with
  | nil => intro p; simp [sp, tot]
  | cons t l ih =>
    intro p
    have h1 := gap_len p t
    have h2 := ih (some t)
    have h3 : t.s.data.toList.length = t.s.size := rfl
    simp only [sp, tot, List.length_append, List.length_cons]
    omega
/-- The token ahead of a place. -/
def ahead (l : List Tk) (I : Nat) : Option Tk := if I = 0 then none else l[I - 1]?
theorem sp_step {l : List Tk} {I : Nat} (h : I < l.length) : sp (ahead l I) (l.drop I) = gapB (ahead l I) l[I] ++ (l[I].s.data.toList ++ sp (ahead l (I + 1)) (l.drop (I + 1))) := by
  rw [List.drop_eq_getElem_cons h, sp]
  have : ahead l (I + 1) = some l[I] := by unfold ahead; rw [if_neg (by omega)]; simp [h]
  rw [this]
theorem bytes_append (a b : List UInt8) : (⟨a.toArray⟩ : ByteArray) ++ ⟨b.toArray⟩ = ⟨(a ++ b).toArray⟩ := by
  apply ByteArray.ext
  simp
theorem bytes_self (s : ByteArray) : (⟨s.data.toList.toArray⟩ : ByteArray) = s := by
  apply ByteArray.ext
  simp
theorem bytes_size (l : List UInt8) : (⟨l.toArray⟩ : ByteArray).size = l.length := by simp [ByteArray.size]
theorem bytes_then (a : List UInt8) (s : ByteArray) : (⟨a.toArray⟩ : ByteArray) ++ s = ⟨(a ++ s.data.toList).toArray⟩ := by
  apply ByteArray.ext
  simp

/-- The model's loop. -/
def RelS (W : World) (l : List Tk) (s i : Value) (wr : World) : Prop :=
  ∃ (I : Nat) (o : List UInt8), I ≤ l.length ∧ i = .int .i64 (I : Int) ∧ s = .string ⟨o.toArray⟩ ∧ o ++ sp (ahead l I) (l.drop I) = sp none l ∧ Below W.heap.size W wr

set_option maxHeartbeats 3200000 in
theorem spec_spell (l : List Tk) (a : Option Addr) (cap : Nat) (w : World) (hn : l.length ≤ 1048576) (hc : Lies w.heap.size w a l) (ht : l.length + tot l ≤ 1048576) :
    Calls Tryd.prog 14 #[.slice a l.length cap] w fun e w' => e = .returned (.string (spellB l)) ∧ Below w.heap.size w w' := by
  have HC := Lib.hid hc
  have HT := Lib.hid (Nat.le_trans (sp_len l none) ht)
  have HTT := Lib.hid ht
  clear hc ht
  obtain ⟨n, hln⟩ : ∃ n, n = l.length := ⟨_, rfl⟩
  have HLN := Lib.hid hln
  rw [← hln]
  rw [← hln] at hn
  clear hln
  go_enter Tryd.func14, Tryd.ntmps14
  go_wp2
  go_loopw [3, 4] (fun s i wr => RelS w l s i wr) (fun _ i _ => n - (intOf i).toNat)
  case atStart => exact ⟨0, [], by omega, rfl, rfl, by simp [ahead], Below.refl _ _⟩
  case round =>
    obtain ⟨I, o, hI, rfl, rfl, hsp, hbel⟩ := hrel
    have HB := Lib.hid hbel
    rw [← HLN.out] at hI
    by_cases hlt : I < n
    · have hl1 : I < l.length := by have := HLN.out; omega
      have hst := sp_step hl1
      obtain ⟨b, ao, rfl, hb, hcell⟩ := lies_at HC.out hl1
      have HCELL := Lib.hid (hcell I hl1)
      obtain ⟨c0, c1, c2⟩ := (hcell I hl1).keep hbel hb
      obtain ⟨t, htt⟩ : ∃ t, t = l[I] := ⟨_, rfl⟩
      rw [← htt] at hst HCELL c0 c1 c2
      have hi1 : (I : Int) < (n : Int) := by omega
      have hi0 : (0 : Int) ≤ (I : Int) := by omega
      rw [hst] at hsp
      have hlen : o.length + ((gapB (ahead l I) t).length + t.s.size) ≤ 1048576 := by
        have h1 := HT.out
        rw [← hsp] at h1
        have h3 : t.s.data.toList.length = t.s.size := rfl
        simp only [List.length_append] at h1
        omega
      by_cases h0 : I = 0
      · subst h0
        have HSP := Lib.hid (show (o ++ t.s.data.toList) ++ sp (ahead l (0 + 1)) (l.drop (0 + 1)) = sp none l by rw [← hsp]; simp [ahead, gapB])
        have HC2 := Lib.hid (bytes_then o t.s)
        obtain ⟨oo, hoo⟩ : ∃ oo : ByteArray, oo = ⟨o.toArray⟩ := ⟨_, rfl⟩
        have ka := fun w => run_string_add_sum (P := Tryd.prog) (w := w) oo t.s (by rw [hoo, bytes_size]; omega)
        rw [← hoo] at HC2 ⊢
        have HLEN := Lib.hid hlen
        clear htt hcell hbel hst hsp hlen hoo
        go_wp2
        go_quiet (fail)
        go_wp2
        go_roundw
        case rel => exact ⟨1, o ++ t.s.data.toList, by have := HLN.out; omega, by go_num, by rw [HC2.out], HSP.out, tok.below_drewN HB.out _⟩
        case measure => simp [intOf]; omega
      · have hpl : I - 1 < l.length := by omega
        have hah : ahead l I = some (l[I - 1]'hpl) := by unfold ahead; rw [if_neg h0, List.getElem?_eq_getElem hpl]
        obtain ⟨J, rfl⟩ : ∃ J : Nat, I = J + 1 := ⟨I - 1, by omega⟩
        have HPC := Lib.hid (hcell J (by omega))
        obtain ⟨u, hu⟩ : ∃ u, u = l[J]'(by omega) := ⟨_, rfl⟩
        have hu' : (l[J + 1 - 1]'hpl) = u := by rw [hu]; rfl
        rw [hu'] at hah
        rw [← hu] at HPC
        rw [hah] at hsp hlen
        have hus : u.s.size + t.s.size ≤ 1048576 := by
          have h1 := HTT.out
          have h2 := tot_le l (J + 1 + 1)
          rw [tot_step hl1, tot_step (l := l) (I := J) (by omega), ← htt, ← hu] at h2
          omega
        have hj0 : (0 : Int) < (J : Int) + 1 := by omega
        have hj1 : (0 : Int) ≤ (J : Int) := by omega
        have hj2 : (J : Int) < (n : Int) := by omega
        have hj3 : (0 : Int) ≤ (J : Int) + 1 := by omega
        have hj4 : (J : Int) + 1 < (n : Int) := by omega
        have s1 : IntKind.i64.wrap ((J : Int) + 1 - 1) = (J : Int) := by rw [IntKind.wrap_i64]; omega
        have s2 : IntKind.i64.wrap (J : Int) = (J : Int) := by rw [IntKind.wrap_i64]; omega
        have HS0 := Lib.hid (six_start ((HPC.out).keep hbel hb) (HCELL.out.keep hbel hb) hbel)
        obtain ⟨G, hG⟩ : ∃ G, G = needsGap u t := ⟨_, rfl⟩
        have HG := Lib.hid hG
        have HSP := Lib.hid hsp
        have HLEN := Lib.hid hlen
        obtain ⟨oo, hoo⟩ : ∃ oo : ByteArray, oo = ⟨o.toArray⟩ := ⟨_, rfl⟩
        have HOO := Lib.hid hoo
        rw [← hoo]
        clear htt hcell hbel hst hsp hlen hoo hu hu' hah hG h0 c0 c1 c2
        go_wp2
        go_region_held3 (fun w' => w'.cell? ⟨b, ao + J * 3, none⟩ = some (.int .i64 u.k) ∧ w'.cell? ⟨b, ao + J * 3 + 1, none⟩ = some (.string u.s) ∧ w'.cell? ⟨b, ao + J * 3 + 2, none⟩ = some (.int .i64 u.a) ∧ w'.cell? ⟨b, ao + (J + 1) * 3, none⟩ = some (.int .i64 t.k) ∧ w'.cell? ⟨b, ao + (J + 1) * 3 + 1, none⟩ = some (.string t.s) ∧ w'.cell? ⟨b, ao + (J + 1) * 3 + 2, none⟩ = some (.int .i64 t.a) ∧ Below w.heap.size w w')
          (first | exact six_drew HS0.out | exact HS0.out | exact six_keep hb hb (by assumption) (by assumption) | exact six_drew (by assumption))
          (first | (go_at_call 28; refine (gap.spec_gap u.k u.a t.k t.a u.s t.s _ hus).mono ?_; rintro e w1 ⟨he, b1⟩; rw [← HG.out] at he; subst he))
        have HS := Lib.hid (by assumption : _ ∧ _ ∧ _ ∧ _ ∧ _ ∧ _ ∧ Below w.heap.size w _)
        obtain ⟨-, -, -, c0, c1, c2, -⟩ := HS.out
        cases G
        · have HGB := Lib.hid (show gapB (some u) t = [] by show (if needsGap u t = true then [32] else []) = []; rw [← HG.out]; rfl)
          have HNX := Lib.hid (show (o ++ t.s.data.toList) ++ sp (ahead l (J + 1 + 1)) (l.drop (J + 1 + 1)) = sp none l by rw [← HSP.out, HGB.out]; simp)
          have HC2 := Lib.hid (show oo ++ t.s = ⟨(o ++ t.s.data.toList).toArray⟩ by rw [HOO.out]; exact bytes_then o t.s)
          have ka := fun w => run_string_add_sum (P := Tryd.prog) (w := w) oo t.s (by rw [HOO.out, bytes_size]; have := HLEN.out; omega)
          go_wp2
          go_roundw
          case rel => exact ⟨J + 1 + 1, o ++ t.s.data.toList, by have := HLN.out; omega, by go_num, by rw [HC2.out], HNX.out, HS.out.2.2.2.2.2.2⟩
          case measure => simp [intOf]; omega
        · have HGB := Lib.hid (show gapB (some u) t = [32] by show (if needsGap u t = true then [32] else []) = [32]; rw [← HG.out]; rfl)
          have HNX := Lib.hid (show (o ++ 32 :: t.s.data.toList) ++ sp (ahead l (J + 1 + 1)) (l.drop (J + 1 + 1)) = sp none l by rw [← HSP.out, HGB.out]; simp)
          have HC2 := Lib.hid (show (oo ++ ⟨#[32]⟩) ++ t.s = ⟨(o ++ 32 :: t.s.data.toList).toArray⟩ by
            rw [HOO.out, show (⟨#[32]⟩ : ByteArray) = ⟨([32] : List UInt8).toArray⟩ from rfl, bytes_append, bytes_then]
            simp)
          have ka := fun w => run_string_add_sum (P := Tryd.prog) (w := w) oo ⟨#[32]⟩ (by rw [HOO.out, bytes_size]; have := HLEN.out; show o.length + 1 ≤ _; omega)
          have ka2 := fun w => run_string_add_sum (P := Tryd.prog) (w := w) (oo ++ ⟨#[32]⟩) t.s (by rw [ByteArray.size_append, HOO.out, bytes_size]; have := HLEN.out; show o.length + 1 + _ ≤ _; omega)
          go_wp2
          go_roundw
          case rel => exact ⟨J + 1 + 1, o ++ 32 :: t.s.data.toList, by have := HLN.out; omega, by go_num, by rw [HC2.out], HNX.out, HS.out.2.2.2.2.2.2⟩
          case measure => simp [intOf]; omega
    · have HE := Lib.hid (show (⟨o.toArray⟩ : ByteArray) = spellB l by
        unfold spellB
        rw [← hsp, List.drop_eq_nil_of_le (by have := HLN.out; omega)]
        simp [sp])
      clear hsp hbel
      go_wp2
      go_ret
      exact ⟨by rw [← HE.out]; rfl, HB.out⟩

/-- impl's loop. -/
def RelI (W : World) (l : List Tk) (i : Value) (wr : World) : Prop :=
  ∃ (I : Nat) (o : List UInt8), I ≤ l.length ∧ i = .int .i64 (I : Int) ∧ o ++ sp (ahead l I) (l.drop I) = sp none l ∧ Below W.heap.size W wr ∧ bld.Bld W.heap.size W.heap.size o wr

theorem six_apart {W0 : World} {b g : Nat} {x : Tk} {w1 w2 : World} (h : B3 g x.k x.a x.s w1) (hg : g ≠ b) (ha : bld.Apart b w1 w2) : B3 g x.k x.a x.s w2 := by
  refine (ha g h.lt hg fun c fr e => ?_).trans h
  rw [h] at e
  injection e with e
  injection e with _ e2 _
  cases e2

set_option maxHeartbeats 3200000 in
theorem impl_spell (l : List Tk) (a : Option Addr) (cap : Nat) (w : World) (hn : l.length ≤ 1048576) (hc : Lies w.heap.size w a l) (ht : l.length + tot l ≤ 1048576) (hh : Held w) :
    Calls Tryd.prog 11 #[.slice a l.length cap] w fun e w' => e = .returned (.string (spellB l)) ∧ Below w.heap.size w w' := by
  have HC := Lib.hid hc
  have HH := Lib.hid hh
  have HT := Lib.hid (Nat.le_trans (sp_len l none) ht)
  have HTT := Lib.hid ht
  clear hc ht hh
  obtain ⟨n, hln⟩ : ∃ n, n = l.length := ⟨_, rfl⟩
  have HLN := Lib.hid hln
  rw [← hln]
  rw [← hln] at hn
  have HF0 := Lib.hid (bld.fresh w)
  have HB0 := Lib.hid ((Below.refl w.heap.size w).alloc (Nat.le_refl _) (.cells #[.pointer none, .slice none 0 0] 54))
  clear hln
  go_enter Tryd.func11, Tryd.ntmps11
  go_wp2
  go_loopw [8] (fun i wr => RelI w l i wr) (fun i _ => n - (intOf i).toNat)
  case atStart => exact ⟨0, [], by omega, rfl, by simp [ahead], HB0.out, HF0.out⟩
  case round =>
    obtain ⟨I, o, hI, rfl, hsp, hbel, hbld⟩ := hrel
    have HB := Lib.hid hbel
    have HBL := Lib.hid hbld
    rw [← HLN.out] at hI
    by_cases hlt : I < n
    · have hl1 : I < l.length := by have := HLN.out; omega
      have hst := sp_step hl1
      obtain ⟨b, ao, rfl, hb, hcell⟩ := lies_at HC.out hl1
      have HCELL := Lib.hid (hcell I hl1)
      obtain ⟨c0, c1, c2⟩ := (hcell I hl1).keep hbel hb
      obtain ⟨t, htt⟩ : ∃ t, t = l[I] := ⟨_, rfl⟩
      rw [← htt] at hst HCELL c0 c1 c2
      have hi1 : (I : Int) < (n : Int) := by omega
      have hi0 : (0 : Int) ≤ (I : Int) := by omega
      rw [hst] at hsp
      have hlen : o.length + ((gapB (ahead l I) t).length + t.s.size) ≤ 1048576 := by
        have h1 := HT.out
        rw [← hsp] at h1
        have h3 : t.s.data.toList.length = t.s.size := rfl
        simp only [List.length_append] at h1
        omega
      -- the token's own box
      obtain ⟨W0, hW0⟩ : ∃ W0, W0 = wr.alloc (.cells #[.int .i64 t.k, .string t.s, .int .i64 t.a] 35) := ⟨_, rfl⟩
      have HW0 := Lib.hid hW0
      have HX0 := Lib.hid (show B3 wr.heap.size t.k t.a t.s W0 by rw [hW0]; exact B3.new wr t.k t.a t.s)
      have HB1 := Lib.hid (show Below w.heap.size w W0 by rw [hW0]; exact hbel.alloc hbel.size _)
      have HBL1 := Lib.hid (show bld.Bld w.heap.size w.heap.size o W0 by rw [hW0]; exact hbld.keep ((Below.refl wr.heap.size wr).alloc (Nat.le_refl _) _) (Nat.le_refl _))
      have hbb : w.heap.size < wr.heap.size := hbld.lt
      clear hW0
      by_cases h0 : I = 0
      · subst h0
        have HSP := Lib.hid (show (o ++ t.s.data.toList) ++ sp (ahead l (0 + 1)) (l.drop (0 + 1)) = sp none l by rw [← hsp]; simp [ahead, gapB])
        have HLEN := Lib.hid hlen
        clear htt hcell hbel hst hsp hlen hbld
        simp only [Nat.zero_mul, Nat.add_zero] at c0 c1 c2
        go_wp2
        rw [← HW0.out]
        go_quiet (fail)
        have HB1q := Lib.hid (tok.below_drewN HB1.out nq)
        have HBLq := Lib.hid (HBL1.out.drewN nq)
        have HXq := Lib.hid (show B3 wr.heap.size t.k t.a t.s (W0.drewN nq) from HX0.out)
        obtain ⟨x0, x1, x2⟩ := HXq.out.c
        go_wp2_with fail
        refine (bld.write_string t.s HBLq.out (by have := HLEN.out; omega) HB1q.out.size).mono ?_
        rintro e w2 ⟨rfl, hb2, b2, _⟩
        have HB2 := Lib.hid (HB1q.out.trans b2)
        have HBL2 := Lib.hid hb2
        clear b2 hb2
        go_wp2
        go_roundw
        case rel => exact ⟨1, o ++ t.s.data.toList, by have := HLN.out; omega, by go_num, HSP.out, HB2.out, HBL2.out⟩
        case measure => simp [intOf]; omega
      · have hpl : I - 1 < l.length := by omega
        have hah : ahead l I = some (l[I - 1]'hpl) := by unfold ahead; rw [if_neg h0, List.getElem?_eq_getElem hpl]
        obtain ⟨J, rfl⟩ : ∃ J : Nat, I = J + 1 := ⟨I - 1, by omega⟩
        have HPC := Lib.hid (hcell J (by omega))
        obtain ⟨u, hu⟩ : ∃ u, u = l[J]'(by omega) := ⟨_, rfl⟩
        have hu' : (l[J + 1 - 1]'hpl) = u := by rw [hu]; rfl
        rw [hu'] at hah
        rw [← hu] at HPC
        rw [hah] at hsp hlen
        have hus : u.s.size + t.s.size ≤ 1048576 := by
          have h1 := HTT.out
          have h2 := tot_le l (J + 1 + 1)
          rw [tot_step hl1, tot_step (l := l) (I := J) (by omega), ← htt, ← hu] at h2
          omega
        have hj0 : (0 : Int) < (J : Int) + 1 := by omega
        have hj1 : (0 : Int) ≤ (J : Int) := by omega
        have hj2 : (J : Int) < (n : Int) := by omega
        have hj3 : (0 : Int) ≤ (J : Int) + 1 := by omega
        have hj4 : (J : Int) + 1 < (n : Int) := by omega
        have s1 : IntKind.i64.wrap ((J : Int) + 1 - 1) = (J : Int) := by rw [IntKind.wrap_i64]; omega
        have s2 : IntKind.i64.wrap (J : Int) = (J : Int) := by rw [IntKind.wrap_i64]; omega
        have hg0 : wr.heap.size < W0.heap.size := HX0.out.lt
        have hb0 : b < W0.heap.size := by have := HB1.out.size; omega
        have HS0 := Lib.hid (six_start (x := u) (y := t) (HPC.out.keep HB1.out hb) (b' := wr.heap.size) (o' := 0) HX0.out.c (Below.refl W0.heap.size W0))
        obtain ⟨G, hG⟩ : ∃ G, G = needsGap u t := ⟨_, rfl⟩
        have HG := Lib.hid hG
        have HSP := Lib.hid hsp
        have HLEN := Lib.hid hlen
        have HNE := Lib.hid (show wr.heap.size ≠ w.heap.size by omega)
        clear htt hcell hbel hst hsp hlen hu hu' hah hG h0 hbld
        go_wp2
        rw [← HW0.out]
        go_region_held3 (fun w' => w'.cell? ⟨b, ao + J * 3, none⟩ = some (.int .i64 u.k) ∧ w'.cell? ⟨b, ao + J * 3 + 1, none⟩ = some (.string u.s) ∧ w'.cell? ⟨b, ao + J * 3 + 2, none⟩ = some (.int .i64 u.a) ∧ w'.cell? ⟨wr.heap.size, 0, none⟩ = some (.int .i64 t.k) ∧ w'.cell? ⟨wr.heap.size, 1, none⟩ = some (.string t.s) ∧ w'.cell? ⟨wr.heap.size, 2, none⟩ = some (.int .i64 t.a) ∧ Below W0.heap.size W0 w')
          (first | exact six_drew (o' := 0) HS0.out | exact HS0.out | exact six_keep (o' := 0) hb0 hg0 (by assumption) (by assumption) | exact six_drew (o' := 0) (by assumption))
          (first | (go_at_call 30; refine (gap.impl_gap u.k u.a t.k t.a u.s t.s _ hus (HH.out.below (HB1.out.trans ((by assumption : _ ∧ _ ∧ _ ∧ _ ∧ _ ∧ _ ∧ Below W0.heap.size W0 _).2.2.2.2.2.2.mono HB1.out.size)))).mono ?_; rintro e w1 ⟨he, b1⟩; rw [← HG.out] at he; subst he))
        have HS := Lib.hid (by assumption : _ ∧ _ ∧ _ ∧ _ ∧ _ ∧ _ ∧ Below W0.heap.size W0 _)
        have HBr := Lib.hid (HB1.out.trans (HS.out.2.2.2.2.2.2.mono HB1.out.size))
        have HBLr := Lib.hid (HBL1.out.keep HS.out.2.2.2.2.2.2 (Nat.le_refl _))
        have HXr := Lib.hid (HX0.out.keep HS.out.2.2.2.2.2.2 hg0)
        obtain ⟨x0, x1, x2⟩ := HXr.out.c
        cases G
        · have HGB := Lib.hid (show gapB (some u) t = [] by show (if needsGap u t = true then [32] else []) = []; rw [← HG.out]; rfl)
          have HNX := Lib.hid (show (o ++ t.s.data.toList) ++ sp (ahead l (J + 1 + 1)) (l.drop (J + 1 + 1)) = sp none l by rw [← HSP.out, HGB.out]; simp)
          go_wp2_with fail
          refine (bld.write_string t.s HBLr.out (by have := HLEN.out; omega) HBr.out.size).mono ?_
          rintro e w2 ⟨rfl, hb2, b2, _⟩
          have HB2 := Lib.hid (HBr.out.trans b2)
          have HBL2 := Lib.hid hb2
          clear b2 hb2
          go_wp2
          go_roundw
          case rel => exact ⟨J + 1 + 1, o ++ t.s.data.toList, by have := HLN.out; omega, by go_num, HNX.out, HB2.out, HBL2.out⟩
          case measure => simp [intOf]; omega
        · have HGB := Lib.hid (show gapB (some u) t = [32] by show (if needsGap u t = true then [32] else []) = [32]; rw [← HG.out]; rfl)
          have HNX := Lib.hid (show ((o ++ [32]) ++ t.s.data.toList) ++ sp (ahead l (J + 1 + 1)) (l.drop (J + 1 + 1)) = sp none l by rw [← HSP.out, HGB.out]; simp)
          go_wp2_with fail
          refine (bld.write_byte (32 : UInt8) HBLr.out (by have := HLEN.out; omega) HBr.out.size).mono ?_
          rintro e w2 ⟨rfl, hb2, b2, ap2⟩
          have HB2 := Lib.hid (HBr.out.trans b2)
          have HBL2 := Lib.hid hb2
          have HX2 := Lib.hid (six_apart (W0 := W0) HXr.out HNE.out ap2)
          obtain ⟨y0, y1, y2⟩ := HX2.out.c
          clear b2 hb2 ap2 x0 x1 x2
          go_wp2_with fail
          refine (bld.write_string t.s HBL2.out (by have := HLEN.out; rw [HGB.out] at this; simp at this ⊢; omega) HB2.out.size).mono ?_
          rintro e w3 ⟨rfl, hb3, b3, _⟩
          have HB3 := Lib.hid (HB2.out.trans b3)
          have HBL3 := Lib.hid hb3
          clear b3 hb3
          go_wp2
          go_roundw
          case rel => exact ⟨J + 1 + 1, (o ++ [32]) ++ t.s.data.toList, by have := HLN.out; omega, by go_num, HNX.out, HB3.out, HBL3.out⟩
          case measure => simp [intOf]; omega
    · have HE := Lib.hid (show (⟨o.toArray⟩ : ByteArray) = spellB l by
        unfold spellB
        rw [← hsp, List.drop_eq_nil_of_le (by have := HLN.out; omega)]
        simp [sp])
      clear hsp hbel hbld
      go_wp2_with fail
      refine (bld.string_any HBL.out HB.out.size).mono ?_
      rintro e w2 ⟨rfl, b2⟩
      go_wp2
      go_ret
      exact ⟨by rw [← HE.out]; rfl, HB.out.trans b2⟩
end Go.Proofs.YtlbloemmabjmoaaDoor.spelled
