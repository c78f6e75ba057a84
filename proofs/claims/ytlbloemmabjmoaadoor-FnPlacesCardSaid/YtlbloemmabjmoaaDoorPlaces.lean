/-
  'laws.FnPlaces' returns true at every slice of bytes, and leaves it as it was: of the text that the model draws from it, impl.Lex's tokens lie where they say, one behind the other, blanks alone between them, each right for its kind, all together what TokensOk allows; or there is a fault: the model's, within the text, with no tokens. The row lists impl's two tables of spellings (keywords, operators), tied to the program's text (the card), and says that they read behind the call as before. No other condition. What is listed is tied to the copy of the project that the seat holds (its packages impl, spec and laws, no test): of code elsewhere that could write these variables the card says nothing.
-/
import Derived.Test.YtlbloemmabjmoaaDoorCards
import Derived.Test.YtlbloemmabjmoaaDoorTie
import Derived.Test.YtlbloemmabjmoaaDoorLaidKw
import Derived.Test.YtlbloemmabjmoaaDoorLexSpec
import Derived.Test.YtlbloemmabjmoaaDoorToksSpec
import Derived.Test.YtlbloemmabjmoaaDoorPlacesMath
import Derived.Test.YtlbloemmabjmoaaDoorDrawLex
import Derived.IntWalk
import Derived.OpenVars
import Derived.Laws.StructEq
import Derived.Deep.DeepHandedRow
import Derived.Deep.RegionHeld3
import Derived.Lib.SmallJoins
import Derived.Stop.LaidErr
namespace Go.Proofs.YtlbloemmabjmoaaDoor.lawPlaces
open Go.ChangeShapes Go.WideShapes Go.ChangeAt Go.RowKit
open spell (Held held)
open tk own lex plc
open scan (byteZ)
set_option linter.unusedVariables false
abbrev IsRow := draw.IsRow

/-- A fault in its box. -/
def FB (g : Nat) (k a : Int) (w : World) : Prop := w.heap[g]? = some (.cells #[.int .i64 k, .int .i64 a] 28 (0, 0))
theorem FB.lt {g : Nat} {k a : Int} {w : World} (h : FB g k a w) : g < w.heap.size := by
  rcases Nat.lt_or_ge g w.heap.size with h' | h'
  · exact h'
  · unfold FB at h; rw [Array.getElem?_eq_none h'] at h; cases h
theorem FB.c {g : Nat} {k a : Int} {w : World} (h : FB g k a w) : w.cell? ⟨g, 0, none⟩ = some (.int .i64 k) ∧ w.cell? ⟨g, 1, none⟩ = some (.int .i64 a) :=
  ⟨by rw [cell_of_row w g 0 _ _ _ h]; rfl, by rw [cell_of_row w g 1 _ _ _ h]; rfl⟩
theorem FB.keep {B g : Nat} {k a : Int} {w w' : World} (h : FB g k a w) (hb : Below B w w') (hg : g < B) : FB g k a w' := (hb.block g hg).trans h

/-- One token's cells, and nothing below has turned. -/
theorem th_start {W0 W : World} {b o : Nat} {k a : Int} {x : ByteArray} (h : At W b o ⟨k, x, a⟩) (hB : Below W0.heap.size W0 W) :
    W.cell? ⟨b, o, none⟩ = some (.int .i64 k) ∧ W.cell? ⟨b, o + 1, none⟩ = some (.string x) ∧ W.cell? ⟨b, o + 2, none⟩ = some (.int .i64 a) ∧ Below W0.heap.size W0 W := ⟨h.1, h.2.1, h.2.2, hB⟩
theorem th_drew {W0 W : World} {b o : Nat} {k a : Int} {x : ByteArray}
    (h : W.cell? ⟨b, o, none⟩ = some (.int .i64 k) ∧ W.cell? ⟨b, o + 1, none⟩ = some (.string x) ∧ W.cell? ⟨b, o + 2, none⟩ = some (.int .i64 a) ∧ Below W0.heap.size W0 W) :
    W.drew.cell? ⟨b, o, none⟩ = some (.int .i64 k) ∧ W.drew.cell? ⟨b, o + 1, none⟩ = some (.string x) ∧ W.drew.cell? ⟨b, o + 2, none⟩ = some (.int .i64 a) ∧ Below W0.heap.size W0 W.drew := ⟨h.1, h.2.1, h.2.2.1, h.2.2.2.drew⟩
theorem th_keep {W0 W w1 : World} {b o : Nat} {k a : Int} {x : ByteArray} (hb : b < W0.heap.size)
    (h : W.cell? ⟨b, o, none⟩ = some (.int .i64 k) ∧ W.cell? ⟨b, o + 1, none⟩ = some (.string x) ∧ W.cell? ⟨b, o + 2, none⟩ = some (.int .i64 a) ∧ Below W0.heap.size W0 W) (hk : Below W.heap.size W w1) :
    w1.cell? ⟨b, o, none⟩ = some (.int .i64 k) ∧ w1.cell? ⟨b, o + 1, none⟩ = some (.string x) ∧ w1.cell? ⟨b, o + 2, none⟩ = some (.int .i64 a) ∧ Below W0.heap.size W0 w1 := by
  have hs := h.2.2.2.size
  exact th_start (At.keep ⟨h.1, h.2.1, h.2.2.1⟩ hk (by omega)) (h.2.2.2.trans (hk.mono hs))

theorem pl_sizes {s : ByteArray} (l : List Tk) : ∀ i, Pl s i l → ∀ t ∈ l, t.s.size ≤ s.size := by
  induction l with
  | nil => intro i _ t ht; cases ht
  | cons u l ih =>
    rintro i ⟨g, e, -, -, hge, he, hx, -, -, hr⟩ t ht
    rcases List.mem_cons.1 ht with rfl | ht
    · rw [hx, scan.cut_size he]; omega
    · exact ih e hr t ht

def RelP (s : ByteArray) (W : World) (l : List Tk) (p i : Value) (wr : World) : Prop :=
  ∃ I A : Nat, I ≤ l.length ∧ i = .int .i64 (I : Int) ∧ p = .int .i64 (A : Int) ∧ A ≤ s.size ∧ Pl s A (l.drop I) ∧ Below W.heap.size W wr
def RelG (A g : Nat) (W : World) (v : Value) (wr : World) : Prop :=
  ∃ J : Nat, A ≤ J ∧ J ≤ g ∧ v = .int .i64 (J : Int) ∧ Below W.heap.size W wr

set_option maxRecDepth 100000 in
set_option maxHeartbeats 4000000 in
theorem core {a : Option Addr} {len cap : Nat} {zs : List Int} {w : World} (hc : draw.Code w.heap.size w a len zs) (hl : len ≤ 1048576) (hh : Held w) :
    Calls Tryd.prog 4 #[.slice a len cap] w fun e w' => e = .returned (.bool true) ∧ Below w.heap.size w w' := by
  have HC := Lib.hid hc
  have HH := Lib.hid hh
  clear hc hh
  have hbig : decide (1048576 < len) = false := by simp; omega
  go_enter Tryd.func4, Tryd.ntmps4
  go_wp2_with fail
  refine (draw.big_any a len cap _ (by omega)).mono ?_
  rintro e w' ⟨he, rfl⟩
  rw [hbig] at he
  subst he
  clear hbig
  go_wp2_with fail
  refine (draw.draw_lex HC.out hl).mono ?_
  rintro e w1 ⟨s, hs, rfl, b1⟩
  have B1 := Lib.hid b1
  have H1 := Lib.hid (HH.out.below b1)
  clear b1
  have hs2 : s.size ≤ 1048576 := by omega
  obtain ⟨F, hF⟩ : ∃ F, F = lexF s := ⟨_, rfl⟩
  have hlen := lexF_len s
  have hp := @lexF_pl s
  have hbad := @lexF_bad s
  rw [← hF] at hlen hp hbad
  obtain ⟨l, k, f⟩ := F
  simp only at hlen hp hbad
  have HF := Lib.hid hF
  have HP := Lib.hid hp
  have HBAD := Lib.hid hbad
  clear hF hp hbad
  go_wp2_with fail
  refine (impl_lex s w1 hs2 H1.out).mono ?_
  rintro e w2 ⟨v1, he, b2, o2⟩
  rw [← HF.out] at he o2
  simp only at he o2
  subst he
  obtain ⟨a1, c1, rfl⟩ := o2.form
  obtain ⟨W2, hW2⟩ : ∃ W2, W2 = w2.alloc (.cells #[.int .i64 k, .int .i64 f] 28) := ⟨_, rfl⟩
  have X2 := Lib.hid (show FB w2.heap.size k f W2 by rw [hW2]; exact heap_alloc_new w2 _)
  have B2 := Lib.hid (show Below w.heap.size w W2 by rw [hW2]; exact B1.out.trans ((b2.alloc b2.size _).mono B1.out.size))
  have H2 := Lib.hid (HH.out.below B2.out)
  have L2 := Lib.hid (show Lies W2.heap.size W2 a1 l by rw [hW2]; exact ((o2.lies rfl).keep ((Below.refl w2.heap.size w2).alloc (Nat.le_refl _) _) (Nat.le_refl _)).up (by simp))
  have HW2 := Lib.hid hW2
  clear b2 o2
  obtain ⟨x0, x1⟩ := X2.out.c
  rw [hW2] at x0 x1
  clear hW2
  by_cases hk : k = 0
  · obtain ⟨k0, k1⟩ := eq_facts hk
    have HPL := Lib.hid (HP.out hk)
    have HSZ := Lib.hid (pl_sizes l 0 HPL.out.1)
    clear hk
    obtain ⟨n, hln⟩ : ∃ n, n = l.length := ⟨_, rfl⟩
    have HLN := Lib.hid hln
    rw [← hln] at hlen ⊢
    clear hln
    go_wp2
    go_loopw [8, 9] (fun p i wr => RelP s W2 l p i wr) (fun _ i _ => n - (intOf i).toNat)
    case atStart => exact ⟨0, 0, by omega, rfl, rfl, by omega, HPL.out.1, by rw [HW2.out]; exact Below.refl _ _⟩
    case round =>
      obtain ⟨I, A, hI, rfl, rfl, hA, hpl, hbel⟩ := hrel
      have HB := Lib.hid hbel
      have HQ := Lib.hid hpl
      rw [← HLN.out] at hI
      clear hbel hpl x0 x1
      by_cases hlt : I < n
      · have hl1 : I < l.length := by have := HLN.out; omega
        obtain ⟨b, o, rfl, hb, hcell⟩ := lies_at L2.out hl1
        have hcx := hcell I hl1
        have hq := HQ.out
        rw [List.drop_eq_getElem_cons hl1] at hq
        obtain ⟨t, ht⟩ : ∃ t, t = l[I] := ⟨_, rfl⟩
        rw [← ht] at hcx hq
        obtain ⟨tk', x, ta⟩ := t
        obtain ⟨g, e, hta, q1, q2, q3, hx, hbl, hok, hrest⟩ := hq
        simp only at hta hx hok
        subst hta
        have hxs : x.size = e - g := by rw [hx, scan.cut_size q3]
        obtain rfl : e = g + x.size := by omega
        have HC0 := Lib.hid hcx
        have HR := Lib.hid hrest
        have HBL := Lib.hid hbl
        have HOK := Lib.hid hok
        have hxb : x.size ≤ 1048576 := by omega
        obtain ⟨m, hm⟩ : ∃ m, m = x.size := ⟨_, rfl⟩
        rw [← hm] at q2 q3 hx HR
        have HM := Lib.hid hm
        have HX := Lib.hid hx
        clear hcx hrest hbl hok hx hm ht hcell hxs
        have hi1 : (I : Int) < (n : Int) := by omega
        have hi0 : (0 : Int) ≤ (I : Int) := by omega
        have U1 := Lib.hid (show (A : Int) ≤ (g : Int) by omega)
        have U1b := Lib.hid (show A ≤ g by omega)
        have u2 : ((m : Int) == 0) = false := by rw [beq_eq_false_iff_ne]; omega
        have u3 : (g : Int) + (m : Int) ≤ (s.size : Int) := by omega
        have u3b : g + m ≤ s.size := by omega
        have u4 : IntKind.i64.wrap ((g : Int) + (m : Int)) = (g : Int) + (m : Int) := IntWalk.i64_in _ (by omega)
        have u5 : ((g : Int) + (m : Int)).toNat = g + m := by omega
        have u6 : ((s.extract g (g + m)).toList != x.toList) = false := by rw [HX.out]; simp
        have u7 : (g : Int) + (m : Int) ≤ (s.size : Int) := by omega
        have u8 : (0 : Int) ≤ (g : Int) := by omega
        have u9 : (g : Int) ≤ (g : Int) + (m : Int) := by omega
        have HS0 := Lib.hid (th_start (HC0.out.keep HB.out hb) HB.out)
        obtain ⟨c0, c1', c2, -⟩ := HS0.out
        rw [HM.out] at u2 u3 u3b u4 u5 u6 u7 u9
        have U2 := Lib.hid u2
        have U3 := Lib.hid u3
        have U3b := Lib.hid u3b
        have U4 := Lib.hid u4
        have U5 := Lib.hid u5
        have U6 := Lib.hid u6
        have U7 := Lib.hid u7
        have U8 := Lib.hid u8
        have U9 := Lib.hid u9
        clear u2 u3 u3b u4 u5 u6 u7 u8 u9
        have HHr := Lib.hid (HH.out.below (B2.out.trans (HB.out.mono B2.out.size)))
        obtain ⟨wo, rfl⟩ : ∃ wo : World, wo = wr := ⟨_, rfl⟩
        clear c0 c1' c2
        have c1'' := HS0.out.2.1
        go_wp2
        clear c1''
        have u1 := Int.not_lt.mpr U1.out
        have u1b := Nat.not_lt.mpr U1b.out
        have u2 := U2.out
        have u3 := Int.not_lt.mpr U3.out
        have u3b := Nat.not_lt.mpr U3b.out
        have u4 := U4.out
        have u5 := U5.out
        have u6 := U6.out
        have u6b : s.extract g (g + x.size) = x := by have h := HX.out; rw [HM.out] at h; exact h.symm
        have u6c : (x.toList == x.toList) = true := by simp
        have u6d : (x.toList != x.toList) = false := by simp
        have u7 := U7.out
        have u8 := U8.out
        have u9 := U9.out
        go_region_held3 (fun w' => w'.cell? ⟨b, o + I * 3, none⟩ = some (.int .i64 tk') ∧ w'.cell? ⟨b, o + I * 3 + 1, none⟩ = some (.string x) ∧ w'.cell? ⟨b, o + I * 3 + 2, none⟩ = some (.int .i64 (g : Int)) ∧ Below W2.heap.size W2 w')
          (first | exact th_drew HS0.out | exact HS0.out | exact th_keep hb (by assumption) (by assumption) | exact th_drew (by assumption))
          (first | (go_at_call 20; refine (tok.spec_tok tk' g x _ hxb).mono ?_; rintro e w1 ⟨he, b1⟩; rw [HOK.out] at he; subst he))
        have S1 := Lib.hid (by assumption : _ ∧ _ ∧ _ ∧ Below W2.heap.size W2 _)
        clear u1 u1b u2 u3 u3b u4 u5 u6 u6b u6c u6d u7 u8 u9
        go_wp2
        go_loopw [11] (fun v wr => RelG A g W2 v wr) (fun v _ => g - (intOf v).toNat)
        case atStart => exact ⟨A, Nat.le_refl _, by omega, rfl, S1.out.2.2.2⟩
        case round =>
          obtain ⟨J, hJ0, hJ, rfl, hbj⟩ := hrel
          have HBJ := Lib.hid hbj
          clear hbj
          obtain ⟨d0, d1, d2, -⟩ := th_start (HC0.out.keep HBJ.out hb) HBJ.out
          have hj0 : (0 : Int) ≤ (J : Int) := by omega
          by_cases hJg : J < g
          · have hj1 : (J : Int) < (g : Int) := by omega
            have hjs : J < s.size := by have := HM.out; omega
            have hji : (J : Int) < (s.size : Int) := by omega
            have hby := HBL.out J hJ0 hJg
            rw [scan.byte_in hjs] at hby
            rcases hby with hby | hby | hby | hby
            · obtain ⟨p1, p2⟩ := eq_facts hby
              clear hby
              go_wp2
              go_roundw
              case rel => exact ⟨J + 1, by omega, by omega, by go_num, HBJ.out⟩
              case measure => simp [intOf]; omega
            · obtain ⟨p1, p2⟩ := eq_facts hby
              have p3 := (ne_facts (show ¬ (s[J].toNat : Int) = 32 by omega)).2
              clear hby
              go_wp2
              go_roundw
              case rel => exact ⟨J + 1, by omega, by omega, by go_num, HBJ.out⟩
              case measure => simp [intOf]; omega
            · obtain ⟨p1, p2⟩ := eq_facts hby
              have p3 := (ne_facts (show ¬ (s[J].toNat : Int) = 32 by omega)).2
              have p4 := (ne_facts (show ¬ (s[J].toNat : Int) = 9 by omega)).2
              clear hby
              go_wp2
              go_roundw
              case rel => exact ⟨J + 1, by omega, by omega, by go_num, HBJ.out⟩
              case measure => simp [intOf]; omega
            · obtain ⟨p1, p2⟩ := eq_facts hby
              have p3 := (ne_facts (show ¬ (s[J].toNat : Int) = 32 by omega)).2
              have p4 := (ne_facts (show ¬ (s[J].toNat : Int) = 9 by omega)).2
              have p5 := (ne_facts (show ¬ (s[J].toNat : Int) = 92 by omega)).2
              clear hby
              go_wp2
              go_roundw
              case rel => exact ⟨J + 1, by omega, by omega, by go_num, HBJ.out⟩
              case measure => simp [intOf]; omega
          · have hj1 : ¬ (J : Int) < (g : Int) := by omega
            have e1 : g + x.size ≤ s.size := by have := HM.out; omega
            have u4 := U4.out
            go_wp2
            go_roundw
            case rel => exact ⟨I + 1, g + x.size, by have := HLN.out; omega, by go_num, by go_num, e1, by have := HR.out; rw [HM.out] at this; exact this, HBJ.out⟩
            case measure => simp [intOf]; omega
      · have hi1 : ¬ (I : Int) < (n : Int) := by omega
        have Hr := Lib.hid (HH.out.below (B2.out.trans (HB.out.mono B2.out.size)))
        have Lr := Lib.hid ((L2.out.keep HB.out (Nat.le_refl _)).up HB.out.size)
        go_wp2_with fail
        rw [HLN.out] at hlen ⊢
        refine (tksok.spec_toksOk l a1 c1 wr (by omega) Lr.out (fun t ht => Nat.le_trans (HSZ.out t ht) hs2)).mono ?_
        rintro e w4 ⟨he, b4⟩
        rw [HPL.out.2] at he
        subst he
        have B4 := Lib.hid (HB.out.trans (b4.mono HB.out.size))
        have H4 := Lib.hid (HH.out.below (B2.out.trans (B4.out.mono B2.out.size)))
        have L4 := Lib.hid ((L2.out.keep B4.out (Nat.le_refl _)).up B4.out.size)
        clear b4
        go_wp2_with fail
        refine (tksok.impl_toksOk l a1 c1 w4 (by omega) L4.out (fun t ht => Nat.le_trans (HSZ.out t ht) hs2) H4.out).mono ?_
        rintro e w5 ⟨he, b5⟩
        rw [HPL.out.2] at he
        subst he
        have B5 := Lib.hid (B4.out.trans (b5.mono B4.out.size))
        clear b5
        go_wp2
        go_ret
        exact ⟨rfl, B2.out.trans (B5.out.mono B2.out.size)⟩
  · obtain ⟨k0, k1⟩ := ne_facts hk
    obtain ⟨hn, f0, f1⟩ := HBAD.out hk
    have z0 : ((l.length : Int) == 0) = true := by rw [hn]; rfl
    have HNIL := Lib.hid hn
    clear hk hn
    go_wp2_with fail
    rw [← HW2.out]
    refine (spec_lex s W2 hs2).mono ?_
    rintro e w3 ⟨v3, he, b3, o3⟩
    rw [← HF.out] at he
    simp only at he
    subst he
    obtain ⟨W3, hW3⟩ : ∃ W3, W3 = w3.alloc (.cells #[.int .i64 k, .int .i64 f] 28) := ⟨_, rfl⟩
    have X3 := Lib.hid (show FB w3.heap.size k f W3 by rw [hW3]; exact heap_alloc_new w3 _)
    have B23 := Lib.hid (show Below W2.heap.size W2 W3 by rw [hW3]; exact b3.alloc b3.size _)
    have Y3 := Lib.hid (X2.out.keep B23.out X2.out.lt)
    have B3 := Lib.hid (B2.out.trans (B23.out.mono B2.out.size))
    clear b3 o3 x0 x1
    obtain ⟨x0, x1⟩ := Y3.out.c
    obtain ⟨y0, y1⟩ := X3.out.c
    rw [hW3] at x0 x1 y0 y1
    have HW3 := Lib.hid hW3
    clear hW3
    go_wp2
    go_ret
    exact ⟨rfl, by rw [← HW3.out]; exact B3.out⟩
set_option maxRecDepth 100000 in
/-- THE WALK: the law's own text. -/
theorem walk (a : Option Addr) (len cap : Nat) (zs : List Int) (w : World) (hz : IsRow .u8 w a len cap zs) (hh : Held w) :
    Calls Tryd.prog 4 #[.slice a len cap] w fun e w' => e = .returned (.bool true) ∧ Below w.heap.size w w' := by
  have hlm : len ≤ maxLen := by
    rcases hz with ⟨_, rfl, _, _⟩ | ⟨x, _, hl, hm, _⟩
    · exact Nat.zero_le _
    · exact Nat.le_trans hl hm
  unfold maxLen at hlm
  by_cases hl : len ≤ 1048576
  · exact core (draw.code_of hz) hl hh
  · have hbig : decide (1048576 < len) = true := by simp; omega
    clear hz hh
    go_enter Tryd.func4, Tryd.ntmps4
    go_wp2_with fail
    refine (draw.big_any a len cap _ (by omega)).mono ?_
    rintro e w' ⟨he, rfl⟩
    rw [hbig] at he
    subst he
    go_wp2
    go_ret
    exact ⟨rfl, Below.refl _ _⟩
end Go.Proofs.YtlbloemmabjmoaaDoor.lawPlaces
namespace Go.Proofs.YtlbloemmabjmoaaDoor.lawPlaces
open Go.ChangeShapes Go.WideShapes Go.ChangeAt Go.RowKit
open Go.ChangeMaps (open_string shut_string)
theorem own : ownKnob Tryd.prog.godebug = none := by kernel_rfl
theorem laidOut : laidOutB Tryd.prog = true := by kernel_rfl

set_option maxRecDepth 100000 in
theorem contract (H : Type) (enc : TypeId × Value → H) (W : World) (base : Nat) (args : Array Value) (ds gs : List (DataW H)) (before : List MemPlace)
    (hval : ∀ (j : Nat) t v, Tryd.f4.params[j]? = some t → args[j]? = some v → Value.okWide Tryd.prog W .any base t v)
    (hW : DataW.Whole enc Tryd.prog Tryd.f4.params.toList Rows.fnPlacesSpec.vars false W args.toList ds gs before) (hL0 : laidMetH Tryd.prog Rows.fnPlacesRow.laid W) :
    Calls Tryd.prog 4 args W fun e W' => ∃ v, e = .returned v ∧ Rows.fnPlacesSpec.post enc Tryd.prog Tryd.f4 false true false false W args v W' := by
  have hL : laidMet Tryd.prog Rows.fnPlacesRow.laid W := hL0
  have hW' := hW
  obtain ⟨p, q, hA0, hV, rfl, hfz, hnd⟩ := hW
  have hA : DataW.TrodAll enc Tryd.prog W 0 (fun _ => true) true Tryd.f4.params.toList args.toList ds p := hA0
  rw [Tryd.params4] at hA hval
  obtain ⟨v0, vs0, d0, ds0, p0, q0, hargs, rfl, rfl, h0, r0⟩ := trodAll_cons hA
  obtain ⟨rfl, rfl, rfl⟩ := trodAll_nil r0
  obtain rfl : args = #[v0] := by cases args; simp_all
  obtain ⟨e0, e1, rfl⟩ : ∃ e0 e1, gs = [e0, e1] := by
    have hlen := trodVars_len hV
    match gs, hlen with
    | [x0, x1], _ => exact ⟨x0, x1, rfl⟩
  obtain ⟨a0, len0, cap0, rfl⟩ := okWide_slice Tryd.underlying22 (hval 0 22 v0 rfl rfl)
  have k0 := h0
  have lt0 : ∀ x ∈ p0, x.block < W.heap.size := by obtain ⟨m, hm⟩ := k0; exact DataW.trod_lt m _ _ _ hm
  obtain ⟨z0, w0⟩ : ∃ zs, IsRow .u8 W a0 len0 cap0 zs := by
    obtain ⟨fuel, hf⟩ := h0
    rcases open_ints Tryd.underlying22 Tryd.underlying5 (by kernel_rfl) hf with ⟨hcs, _⟩ | ⟨x, l, c, zs, hcs, _, hl, hm, hz, _, hcell, hwz⟩
    · simp [Value.cells] at hcs
      obtain ⟨rfl, rfl, rfl⟩ := hcs
      exact ⟨[], .inl ⟨rfl, rfl, rfl, rfl⟩⟩
    · simp [Value.cells] at hcs
      obtain ⟨rfl, rfl, rfl⟩ := hcs
      exact ⟨zs, .inr ⟨_, rfl, hl, hm, by simpa using hz, hcell, hwz⟩⟩
  clear hA0
  refine (walk a0 len0 cap0 z0 W w0 (spell.held hL)).mono fun e W' ⟨he, bel⟩ => ?_
  subst he
  exact ⟨_, rfl, _, _, _, [], _, _, hW', trodAll_mk1 (shut_bool Tryd.underlying4 _), (trodAll_cons_mk (Below.trod laidOut (by kernel_rfl) (of_decide_eq_true (by kernel_rfl)) k0 bel lt0) trodAll_mk0), Below.trodVars laidOut bel (by kernel_rfl) hV, bel.frame _, fun h => by cases h⟩

theorem laid_met (os : Os) : laidMet Tryd.prog Rows.fnPlacesRow.laid ((laidWorld os).forCall (fun _ _ => 0) ⟨#[], #[.slice none 0 0], []⟩).memory :=
  laidMet_of_run' 8 (by kernel_rfl) (by kernel_rfl)
theorem reads (os : Os) {H : Type} (enc : TypeId × Value → H) : ∃ places, DataW.whole enc Tryd.prog ((laidWorld os).forCall (fun _ _ => 0) ⟨#[], #[.slice none 0 0], []⟩).memory Tryd.f4.params.toList Rows.fnPlacesSpec.vars false #[Value.slice none 0 0].toList 8 = some ([.nil], [Rows.laid_loop_example_g01543_impl_keywords, Rows.laid_loop_example_g01543_impl_operators], places) :=
  ⟨MemPlace.row ⟨0, 0, none⟩ 17 ++ MemPlace.row ⟨1, 0, none⟩ 39, by kernel_rfl⟩

set_option maxRecDepth 100000 in
theorem lifted (os : Os) (started : os.Started) (H : Type) (enc : TypeId × Value → H) (F : Stop.Interp) :
    ReturnsInHanded {} Tryd.checked os 4 .any ((OpenSpec.ofChange Rows.fnPlacesSpec).preRow enc Tryd.prog Tryd.f4 Rows.fnPlacesRow.domain false Rows.fnPlacesRow.laid) (((OpenSpec.ofChange Rows.fnPlacesSpec).at F).post enc Tryd.prog Tryd.f4 false true false false) := by
  obtain ⟨places, hx⟩ := reads os enc
  refine returnsInHanded_of_row (C := Tryd.checked) (s := OpenSpec.ofChange Rows.fnPlacesSpec) own started (by kernel_rfl) Tryd.func4
    (witness_row_at (enc := enc) (C := Tryd.checked) false (laidWorld os) #[.slice none 0 0] rfl (by kernel_rfl) (by kernel_rfl) (by kernel_rfl)
      (OpenSpec.preRow_of_cond 8 hx (by kernel_rfl) (fun k hk => by cases hk) (by kernel_rfl) (laid_met os))) ?_
  intro W base args ds gs before hval hW _ _ _ hL _ _
  exact contract H enc W base args ds gs before hval hW hL

theorem said : Rows.FnPlacesSaid :=
  OpenClaim.holds_of_cond 4 Tryd.f4 rfl rfl rfl rfl rfl rfl rfl ⟨rfl, rfl, rfl, rfl, rfl⟩ rfl rfl rfl rfl rfl (by kernel_rfl) Tryd.func4 (by kernel_rfl)
    (of_decide_eq_true (by kernel_rfl)) (by unfold Func.isWrapper; first | (rw [if_pos (by decide +kernel)]; kernel_rfl) | (rw [if_neg (by decide +kernel)]; exact ⟨rfl, rfl⟩))
    (fun os started H enc _ F => by rw [OpenClaim.pre_eq_preRow]; exact lifted os started H enc F)

/-- No parameter wants a stand-in; the program's own looks are as the card says. -/
theorem plain (f : FuncId) (fn : Func) (hf : Tryd.pinned.checked.prog.funcNamed "loop.example/g01543/laws.FnPlaces" = some f) (hfn : Tryd.pinned.checked.prog.funcs[f]? = some fn) :
    Rows.fnPlacesCard.stood.looks = Tryd.pinned.checked.prog.looks [] ∧ ∀ (j : Nat) t, fn.params[j]? = some t → Tryd.pinned.checked.prog.wantsStandIn t = false := by
  obtain rfl : f = 4 := Option.some.inj ((show Tryd.prog.funcNamed "loop.example/g01543/laws.FnPlaces" = some 4 by kernel_rfl).symm.trans hf) |>.symm
  obtain rfl : fn = Tryd.f4 := (Option.some.inj (Tryd.func4.symm.trans hfn)).symm
  refine ⟨by kernel_rfl, fun j t ht => ?_⟩
  rw [Tryd.params4] at ht
  have hm := Array.mem_of_getElem? ht
  simp only [List.mem_toArray, List.mem_cons, List.not_mem_nil, or_false] at hm
  rcases hm with rfl
  · exact (show Tryd.prog.wantsStandIn 22 = false by kernel_rfl)

end Go.Proofs.YtlbloemmabjmoaaDoor.lawPlaces
namespace Go.Proofs.YtlbloemmabjmoaaDoor
/-- The card. -/
theorem fnPlaces_card : Rows.FnPlacesCardSaid :=
  Claim7.holds_tied_plain_at .later [] _ _ _ _ lawPlaces.said (fun _ h => by cases h) (by kernel_rfl) (fun _ h => by cases h) fnPlaces_row_tie rfl ⟨rfl, rfl⟩ (by kernel_rfl) rfl lawPlaces.plain (by kernel_rfl)
end Go.Proofs.YtlbloemmabjmoaaDoor
