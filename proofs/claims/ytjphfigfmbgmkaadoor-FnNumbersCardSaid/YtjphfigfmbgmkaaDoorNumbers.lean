/-
  'laws.FnNumbers' returns true at every slice of bytes, and leaves it as it was. The row lists five variables of the library's, tied to the program's text (the card). No other condition. What is listed is tied to the copy of the project that the seat holds (its packages impl, spec and laws, no test): of code elsewhere that could write these variables the card says nothing.
-/
import Derived.Test.YtjphfigfmbgmkaaDoorCards
import Derived.Test.YtjphfigfmbgmkaaDoorTie
import Derived.Test.YtjphfigfmbgmkaaDoorDrawFns
import Derived.Test.YtjphfigfmbgmkaaDoorNumMath
import Derived.Test.YtjphfigfmbgmkaaDoorReadDec
import Derived.Deep.DeepCutAuto
import Derived.Deep.DeepHandedRow
namespace Go.Proofs.YtjphfigfmbgmkaaDoor.numbers
open Go.ChangeShapes Go.WideShapes Go.ChangeAt Go.RowKit
open draw (drawVar drawHex drawReadVar)
open readDec (Held)
set_option linter.unusedVariables false

/-- A slice of bytes that came in: nil, or a row of 'cap' cells, the numbers zs. -/
def IsRow (k : IntKind) (w : World) (a : Option Addr) (len cap : Nat) (zs : List Int) : Prop :=
  (a = none ∧ len = 0 ∧ cap = 0 ∧ zs = []) ∨
  ∃ x, a = some x ∧ len ≤ cap ∧ cap ≤ maxLen ∧ zs.length = cap ∧ (∀ i, i < zs.length → w.cell? (x.add i) = some (.int k (zs.getD i 0))) ∧ ∀ n ∈ zs, (Lit.int k n).wf = true

theorem code_of {w : World} {a : Option Addr} {len cap : Nat} {zs : List Int} (h : IsRow .u8 w a len cap zs) : draw.Code w.heap.size w a len (zs.take len) := by
  rcases h with ⟨rfl, rfl, rfl, rfl⟩ | ⟨x, rfl, hl, hm, hz, hc, hw⟩
  · exact ⟨rfl, by simp, .inl rfl⟩
  · refine ⟨by simp; omega, ?_, ?_⟩
    · intro n hn
      have := hw n (List.mem_of_mem_take hn)
      simp [Lit.wf, IntKind.min, IntKind.max, IntKind.signed, IntKind.bits] at this
      omega
    · by_cases h0 : len = 0
      · exact .inl h0
      · refine .inr ?_
        obtain ⟨b, o, sp⟩ := x
        have c0 := hc 0 (by omega)
        have hsp : sp = none := by simpa [Addr.add] using World.cell?_spot c0
        subst hsp
        have e : ∀ j, (⟨b, o, none⟩ : Addr).add j = ⟨b, o + j, none⟩ := by
          intro j
          simp only [Addr.add]
          split
          · next h0 => subst h0; rfl
          · rfl
        refine ⟨b, o, rfl, World.block_lt_of_cell? w _ c0, ?_⟩
        intro j hj
        rw [← e, hc j (by omega)]
        congr 2
        rw [List.getD_eq_getElem?_getD, List.getD_eq_getElem?_getD, List.getElem?_take, if_pos hj]

theorem big_any (a : Option Addr) (len cap : Nat) (w : World) (hl : (len : Int) ≤ 9223372036854775807) :
    Calls Tryd.prog 6 #[.slice a len cap] w fun e w' => e = .returned (.bool (decide (1048576 < len))) ∧ w = w' := by
  by_cases h : 1048576 < len
  · have h' : (1048576 : Int) < (len : Int) := by omega
    go_enter Tryd.func6, Tryd.ntmps6
    go_wp2
    go_ret
    exact ⟨by simp [h], rfl⟩
  · have h' : ¬ (1048576 : Int) < (len : Int) := by omega
    go_enter Tryd.func6, Tryd.ntmps6
    go_wp2
    go_ret
    exact ⟨by simp, rfl⟩

/-- What Fixed answers at width 7. -/
def fix7 (n : Int) : ByteArray := if n < 0 then ⟨#[]⟩ else fixed.fixS 7 n
theorem fix7_in {n : Int} (h : 0 ≤ n ∧ n < 72057594037927936) : fix7 n = fixed.fixS 7 n := by unfold fix7; rw [if_neg (by omega)]
theorem fix7_out {n : Int} (h : ¬ (0 ≤ n ∧ n < 72057594037927936)) : fix7 n = ⟨#[]⟩ := by
  unfold fix7
  split
  · rfl
  · exact num.fix_out (by omega)
theorem fix7_len (n : Int) : (fix7 n).size ≤ 7 := by
  by_cases h : 0 ≤ n ∧ n < 72057594037927936
  · rw [fix7_in h, num.fix_size h.1 h.2]
    omega
  · rw [fix7_out h]
    exact Nat.zero_le _
theorem fix7_any (n : Int) (w : World) (hn : n ≤ 9223372036854775807) :
    Calls Tryd.prog 11 #[.int .i64 n, .int .i64 7] w fun e w' => e = .returned (.string (fix7 n)) ∧ Below w.heap.size w w' := by
  unfold fix7
  split
  · next h => exact fixed.out n 7 w (.inl h)
  · next h => exact fixed.impl_loop n 7 w (by omega) hn (by omega) (by omega)
theorem readFix_any (s : ByteArray) (w : World) (hs : s.size ≤ maxLen) :
    Calls Tryd.prog 12 #[.string s, .int .i64 7] w fun e w' => ∃ (y : Int) (is : Bool), (7 ≤ s.size → y = readFixed.be (s.data.toList.take 7) ∧ is = true) ∧ e = .returned (.tuple #[.int .i64 y, .bool is]) ∧ w = w' := by
  by_cases h : 7 ≤ s.size
  · refine (readFixed.impl_yes s 7 w hs (by omega) (by omega) (by omega)).mono ?_
    rintro e w' ⟨rfl, rfl⟩
    exact ⟨_, _, fun _ => ⟨rfl, rfl⟩, rfl, rfl⟩
  · refine (readFixed.impl_no s 7 w hs (by omega)).mono ?_
    rintro e w' ⟨rfl, rfl⟩
    exact ⟨_, _, fun h' => absurd h' h, rfl, rfl⟩

set_option maxRecDepth 100000 in
set_option maxHeartbeats 6400000 in
theorem core {len cap : Nat} {w : World} {a : Option Addr} {zs : List Int} (hc : draw.Code w.heap.size w a len zs) (hl : len ≤ 1048576) (hh : Held w) :
    Calls Tryd.prog 3 #[.slice a len cap] w fun e w' => e = .returned (.bool true) ∧ Below w.heap.size w w' := by
  have HC := Lib.hid hc
  have HH := Lib.hid hh
  clear hc hh
  have hbig : decide (1048576 < len) = false := by simp; omega
  obtain ⟨n, hn⟩ : ∃ n, n = drawVar zs := ⟨_, rfl⟩
  have bn := draw.numF_bd zs (0, draw.hF zs zs.length)
  rw [show (draw.numF zs (0, draw.hF zs zs.length)).1 = n from hn.symm] at bn
  obtain ⟨t, ht⟩ : ∃ t, t = drawHex zs := ⟨_, rfl⟩
  have bt := draw.drawHex_len zs
  rw [← ht] at bt
  obtain ⟨r, hr⟩ : ∃ r, r = drawReadVar zs := ⟨_, rfl⟩
  have br := draw.drawReadVar_len zs
  rw [← hr] at br
  obtain ⟨s, hs⟩ : ∃ s, s = var.varS n := ⟨_, rfl⟩
  have bs := draw.var_len n
  rw [← hs] at bs
  have HN := Lib.hid hn
  have HT := Lib.hid ht
  have HR := Lib.hid hr
  have HS := Lib.hid hs
  clear hn ht hr hs
  have kst := fun w => run_string_add_sum (P := Tryd.prog) (w := w) s t (by omega)
  go_enter Tryd.func3, Tryd.ntmps3
  go_wp2_with fail
  refine (big_any a len cap _ (by omega)).mono ?_
  rintro e w' ⟨he, rfl⟩
  rw [hbig] at he
  subst he
  clear hbig
  go_wp2_with fail
  refine (draw.drawVar_any HC.out (Nat.le_refl _) hl).mono ?_
  rintro e w1 ⟨he, b1⟩
  rw [← HN.out] at he
  subst he
  have c1 := Lib.hid (HC.out.keep b1)
  have z1 := b1.size
  go_wp2_with fail
  refine (draw.drawHex_any c1.out z1 hl).mono ?_
  rintro e w2 ⟨he, b2⟩
  rw [← HT.out] at he
  subst he
  have c2 := Lib.hid (c1.out.keep b2)
  have B2 := b1.trans b2
  have z2 := B2.size
  clear b1 b2 c1 z1
  go_wp2_with fail
  refine (var.any _ n _ (.inr rfl)).mono ?_
  rintro e w3 ⟨he, b3⟩
  rw [← HS.out] at he
  subst he
  have c3 := Lib.hid (c2.out.keep (b3.mono z2))
  have B3 := B2.trans (b3.mono z2)
  have z3 := B3.size
  clear B2 b3 c2 z2
  go_wp2_with fail
  refine (readVar.impl_any (s ++ t) _ (by rw [ByteArray.size_append]; unfold maxLen; omega)).mono ?_
  rintro e w4 ⟨x, k, ha, rfl, b4⟩
  have HA := Lib.hid ha
  have c4 := Lib.hid (c3.out.keep (b4.mono z3))
  have B4 := B3.trans (b4.mono z3)
  have z4 := B4.size
  clear ha B3 b4 c3 z3
  go_upto_region 7 with (fail)
  go_cut [55] (fun v wx => v = .bool false ∧ wx = w4)
  case first =>
    by_cases hin : 0 ≤ n ∧ n ≤ 562949953421311
    · obtain ⟨hx, hk⟩ := num.read_var hin t (by rw [← HS.out]; exact HA.out)
      rw [← HS.out] at hk
      have hne : s.toList.isEmpty = false := by rw [HS.out, ByteArray.toList_eq, num.varS_in hin]; have := num.vr_pos 9 n; cases h : var.vr 9 n with | nil => rw [h] at this; simp at this | cons _ _ => rfl
      have hne2 : (s.toList == []) = false := by rw [beq_eq_false_iff_ne]; intro h; rw [h] at hne; cases hne
      obtain ⟨hn0, hn1⟩ := hin
      subst hx hk
      go_wp2_with fail
      go_meet
      exact ⟨rfl, rfl⟩
    · obtain rfl : s = ⟨#[]⟩ := by rw [HS.out, num.varS_out hin]
      by_cases h0 : n < 0
      · clear hin
        go_wp2_with fail
        go_meet
        exact ⟨rfl, rfl⟩
      · have hn0 : 0 ≤ n := by omega
        have hn1 : 562949953421311 < n := by omega
        have hd : decide (n ≤ 562949953421311) = false := by simpa using hn1
        clear hin
        go_wp2_with fail
        go_meet
        exact ⟨rfl, rfl⟩
  case rest =>
    obtain ⟨rfl, rfl⟩ := hcut
    clear HA HS kst bs
    obtain ⟨f, hf⟩ : ∃ f, f = fix7 n := ⟨_, rfl⟩
    have HF := Lib.hid hf
    have bf := fix7_len n
    rw [← hf] at bf
    clear hf
    have kft := fun w => run_string_add_sum (P := Tryd.prog) (w := w) f t (by omega)
    go_wp2_with fail
    refine (fix7_any n _ bn.2).mono ?_
    rintro e w5 ⟨he, b5⟩
    rw [← HF.out] at he
    subst he
    have c5 := Lib.hid (c4.out.keep (b5.mono z4))
    have B5 := B4.trans (b5.mono z4)
    have z5 := B5.size
    clear B4 b5 c4 z4
    go_wp2_with fail
    refine (readFix_any (f ++ t) _ (by rw [ByteArray.size_append]; unfold maxLen; omega)).mono ?_
    rintro e w6 ⟨y, is, hy, rfl, rfl⟩
    have HY := Lib.hid hy
    clear hy
    go_upto_region 11 with (fail)
    go_cut [91] (fun v wx => v = .bool false ∧ wx = w5)
    case first =>
      by_cases hin : 0 ≤ n ∧ n < 72057594037927936
      · obtain ⟨hy, his⟩ := HY.out (by rw [HF.out, ByteArray.size_append, fix7_in hin, num.fix_size hin.1 hin.2]; omega)
        rw [HF.out, fix7_in hin, num.read_fix hin.1 hin.2] at hy
        have hsz : f.size = 7 := by rw [HF.out, fix7_in hin, num.fix_size hin.1 hin.2]
        have HSZ := Lib.hid hsz
        have hne : f.toList.isEmpty = false := by
          cases h : f.toList with
          | nil =>
            rw [ByteArray.toList_eq] at h
            have h0 := congrArg List.length h
            rw [Array.length_toList] at h0
            have e : f.data.size = f.size := rfl
            have h1 : f.data.size = 0 := h0
            omega
          | cons _ _ => rfl
        have hne2 : (f.toList == []) = false := by rw [beq_eq_false_iff_ne]; intro h; rw [h] at hne; cases hne
        have hs7 : ((f.size : Int) != 7) = false := by rw [bne_eq_false_iff_eq]; omega
        obtain ⟨hn0, hn1⟩ := hin
        have hd0 : decide (n < 0) = false := by simpa using hn0
        have hd1 : decide (72057594037927936 ≤ n) = false := by simpa using hn1
        subst hy his
        clear hsz
        go_wp2_with fail
        go_meet
        exact ⟨rfl, rfl⟩
      · obtain rfl : f = ⟨#[]⟩ := by rw [HF.out, fix7_out hin]
        by_cases h0 : n < 0
        · clear hin
          go_wp2_with fail
          go_meet
          exact ⟨rfl, rfl⟩
        · have hn0 : 0 ≤ n := by omega
          have hn1 : 72057594037927936 ≤ n := by omega
          clear hin
          go_wp2_with fail
          go_meet
          exact ⟨rfl, rfl⟩
    case rest =>
      obtain ⟨rfl, rfl⟩ := hcut
      clear HY HF kft bf
      go_wp2_with fail
      refine (dec.impl_any n _ bn.1 bn.2 (HH.out.below B5).tab).mono ?_
      rintro e w7 ⟨rfl, b7⟩
      have c7 := Lib.hid (c5.out.keep (b7.mono z5))
      have B7 := B5.trans (b7.mono z5)
      have z7 := B7.size
      clear B5 b7 c5 z5
      have hit : (⟨(Lib.itoa n).toArray⟩ : ByteArray).size ≤ 1048576 := by
        rw [size_of_list]
        have := Lib.itoa_length_le n bn.1 bn.2
        omega
      go_wp2_with fail
      refine (readDec.impl_any _ _ hit (HH.out.below B7)).mono ?_
      rintro e w8 ⟨d, fine, hd, rfl, b8⟩
      have HD := Lib.hid (num.read_dec n (show decm.Ans (Lib.itoa n) d fine by simpa using hd))
      have c8 := Lib.hid (c7.out.keep (b8.mono z7))
      have B8 := B7.trans (b8.mono z7)
      have z8 := B8.size
      clear hd B7 b8 c7 z7 hit
      go_upto_region 14 with (fail)
      go_cut [113] (fun v wx => v = .bool false ∧ wx = w8)
      case first =>
        rcases HD.out with ⟨hs, rfl, rfl⟩ | ⟨hs, rfl, rfl⟩
        · have h1 : -1000000000 < d := by omega
          have h2 : d < 1000000000 := by omega
          have h2' : decide (d < 1000000000) = true := by simpa using h2
          clear hs
          go_wp2_with fail
          go_meet
          exact ⟨rfl, rfl⟩
        · by_cases h1 : -1000000000 < n
          · have h2 : 1000000000 ≤ n := by omega
            have h2' : decide (n < 1000000000) = false := by simpa using h2
            clear hs
            go_wp2_with fail
            go_meet
            exact ⟨rfl, rfl⟩
          · clear hs
            go_wp2_with fail
            go_meet
            exact ⟨rfl, rfl⟩
      case rest =>
        obtain ⟨rfl, rfl⟩ := hcut
        clear HD
        have ht20 : t.size ≤ 1048576 := by omega
        go_wp2_with fail
        refine (hex.impl_any t _ ht20).mono ?_
        rintro e w9 ⟨rfl, b9⟩
        have c9 := Lib.hid (c8.out.keep (b9.mono z8))
        have B9 := B8.trans (b9.mono z8)
        have z9 := B9.size
        clear B8 b9 c8 z8
        have hh20 : (⟨(hex.hx t.data.toList).toArray⟩ : ByteArray).size ≤ 1048576 := by
          rw [size_of_list, hex.hx_len, Array.length_toList]
          have : t.data.size = t.size := rfl
          omega
        go_wp2_with fail
        refine (unhex.impl_any _ _ hh20).mono ?_
        rintro e w10 ⟨he, b10⟩
        rw [num.read_hex] at he
        simp only [unhex.ret] at he
        subst he
        have c10 := Lib.hid (c9.out.keep (b10.mono z9))
        have B10 := B9.trans (b10.mono z9)
        have z10 := B10.size
        clear B9 b10 c9 z9 hh20 ht20
        go_wp2_with fail
        refine (draw.drawReadVar_any c10.out z10 hl).mono ?_
        rintro e w11 ⟨he, b11⟩
        rw [← HR.out] at he
        subst he
        have c11 := Lib.hid (c10.out.keep b11)
        have B11 := B10.trans b11
        have z11 := B11.size
        clear B10 b11 c10 z10
        have hrm : r.size ≤ maxLen := by unfold maxLen; omega
        go_wp2_with fail
        refine (readVar.impl_any r _ hrm).mono ?_
        rintro e w12 ⟨z, j, hj, rfl, b12⟩
        have c12 := Lib.hid (c11.out.keep (b12.mono z11))
        have B12 := B11.trans (b12.mono z11)
        have z12 := B12.size
        clear B11 b12 c11 z11 hrm
        have hu : (⟨t.data.toList.toArray⟩ : ByteArray) = t := by cases t; simp
        rcases hj with ⟨K, k1, k7, kr, hg, rfl, rfl⟩ | ⟨hno, rfl, rfl⟩
        · have ht := Lib.hid ((readVar.good_test' r K).2 hg)
          have hk0 : ((K : Int) == 0) = false := by rw [beq_eq_false_iff_ne]; omega
          have hk1 : (0 : Int) < (K : Int) := by omega
          have hk2 : (K : Int) ≤ (r.size : Int) := by omega
          clear hg
          go_wp2_with fail
          refine (draw.drawReadVar_any c12.out z12 hl).mono ?_
          rintro e w13 ⟨he, b13⟩
          rw [← HR.out] at he
          subst he
          have c13 := Lib.hid (c12.out.keep b13)
          have B13 := B12.trans b13
          have z13 := B13.size
          clear B12 b13 c12 z12
          go_wp2_with fail
          refine (draw.drawReadVar_any c13.out z13 hl).mono ?_
          rintro e w14 ⟨he, b14⟩
          rw [← HR.out] at he
          subst he
          have c14 := Lib.hid (c13.out.keep b14)
          have B14 := B13.trans b14
          have z14 := B14.size
          clear B13 b14 c13 z13
          go_wp2_with fail
          refine (var.any _ _ _ (.inr rfl)).mono ?_
          rintro e w15 ⟨rfl, b15⟩
          have c15 := Lib.hid (c14.out.keep (b15.mono z14))
          have B15 := B14.trans (b15.mono z14)
          have z15 := B15.size
          clear B14 b15 c14 z14
          go_wp2_with fail
          refine (draw.drawReadVar_any c15.out z15 hl).mono ?_
          rintro e w16 ⟨he, b16⟩
          rw [← HR.out] at he
          subst he
          have c16 := Lib.hid (c15.out.keep b16)
          have B16 := B15.trans b16
          have z16 := B16.size
          clear B15 b16 c15 z15
          have ht2 := ht.out
          go_wp2
          go_ret
          exact ⟨rfl, B16⟩
        · clear hno
          go_wp2
          go_ret
          exact ⟨rfl, B12⟩

set_option maxRecDepth 100000 in
/-- THE WALK: the law's own text. -/
theorem walk (a : Option Addr) (len cap : Nat) (zs : List Int) (w : World) (hz : IsRow .u8 w a len cap zs) (hh : Held w) :
    Calls Tryd.prog 3 #[.slice a len cap] w fun e w' => e = .returned (.bool true) ∧ Below w.heap.size w w' := by
  have hlm : len ≤ maxLen := by
    rcases hz with ⟨_, rfl, _, _⟩ | ⟨x, _, hl, hm, _⟩
    · exact Nat.zero_le _
    · exact Nat.le_trans hl hm
  unfold maxLen at hlm
  by_cases hl : len ≤ 1048576
  · exact core (code_of hz) hl hh
  · have hbig : decide (1048576 < len) = true := by simp; omega
    clear hz hh
    go_enter Tryd.func3, Tryd.ntmps3
    go_wp2_with fail
    refine (big_any a len cap _ (by omega)).mono ?_
    rintro e w' ⟨he, rfl⟩
    rw [hbig] at he
    subst he
    go_wp2
    go_ret
    exact ⟨rfl, Below.refl _ _⟩
end Go.Proofs.YtjphfigfmbgmkaaDoor.numbers
namespace Go.Proofs.YtjphfigfmbgmkaaDoor.numbers
open Go.ChangeShapes Go.WideShapes Go.ChangeAt Go.RowKit
open Go.ChangeMaps (open_string shut_string)
theorem own : ownKnob Tryd.prog.godebug = none := by kernel_rfl
theorem laidOut : laidOutB Tryd.prog = true := by kernel_rfl

set_option maxRecDepth 100000 in
theorem contract (H : Type) (enc : TypeId × Value → H) (W : World) (base : Nat) (args : Array Value) (ds gs : List (DataW H)) (before : List MemPlace)
    (hval : ∀ (j : Nat) t v, Tryd.f3.params[j]? = some t → args[j]? = some v → Value.okWide Tryd.prog W .any base t v)
    (hW : DataW.Whole enc Tryd.prog Tryd.f3.params.toList Rows.fnNumbersSpec.vars false W args.toList ds gs before) (hL0 : laidMetH Tryd.prog Rows.fnNumbersRow.laid W) :
    Calls Tryd.prog 3 args W fun e W' => ∃ v, e = .returned v ∧ Rows.fnNumbersSpec.post enc Tryd.prog Tryd.f3 false true false false W args v W' := by
  have hL : laidMet Tryd.prog Rows.fnNumbersRow.laid W := hL0
  have hW' := hW
  obtain ⟨p, q, hA0, hV, rfl, hfz, hnd⟩ := hW
  have hA : DataW.TrodAll enc Tryd.prog W 0 (fun _ => true) true Tryd.f3.params.toList args.toList ds p := hA0
  rw [Tryd.params3] at hA hval
  obtain ⟨v0, vs0, d0, ds0, p0, q0, hargs, rfl, rfl, h0, r0⟩ := trodAll_cons hA
  obtain ⟨rfl, rfl, rfl⟩ := trodAll_nil r0
  obtain rfl : args = #[v0] := by cases args; simp_all
  obtain ⟨rfl, rfl⟩ := trodVars_none hV
  obtain ⟨a0, len0, cap0, rfl⟩ := okWide_slice Tryd.underlying22 (hval 0 22 v0 rfl rfl)
  have k0 := h0
  have lt0 : ∀ x ∈ p0, x.block < W.heap.size := by obtain ⟨m, hm⟩ := k0; exact DataW.trod_lt m _ _ _ hm
  obtain ⟨z0, w0⟩ : ∃ zs, IsRow .u8 W a0 len0 cap0 zs := by
    obtain ⟨fuel, hf⟩ := h0
    rcases open_ints Tryd.underlying22 Tryd.underlying5 (by kernel_rfl) hf with ⟨hcs, _⟩ | ⟨x, l, c, zs, hcs, _, hl, hm, hz, _, hcell, hwz⟩
    · simp [Value.cells] at hcs
      obtain ⟨rfl, rfl, rfl⟩ := hcs
      exact ⟨[], .inl ⟨rfl, rfl, rfl, rfl⟩⟩
    · simp [Value.cells] at hcs
      obtain ⟨rfl, rfl, rfl⟩ := hcs
      exact ⟨zs, .inr ⟨_, rfl, hl, hm, by simpa using hz, hcell, hwz⟩⟩
  clear hA0
  refine (walk a0 len0 cap0 z0 W w0 (readDec.held hL)).mono fun e W' ⟨he, bel⟩ => ?_
  subst he
  exact ⟨_, rfl, _, _, _, [], _, [], hW', trodAll_mk1 (shut_bool Tryd.underlying4 _), (trodAll_cons_mk (Below.trod laidOut (by kernel_rfl) (of_decide_eq_true (by kernel_rfl)) k0 bel lt0) trodAll_mk0), rfl, bel.frame _, fun h => by cases h⟩

theorem laid_met (os : Os) : laidMet Tryd.prog Rows.fnNumbersRow.laid ((laidWorld os).forCall (fun _ _ => 0) ⟨#[], #[.slice none 0 0], []⟩).memory :=
  laidMet_of_run' 8 (by kernel_rfl) (by kernel_rfl)
theorem reads (os : Os) {H : Type} (enc : TypeId × Value → H) : ∃ places, DataW.whole enc Tryd.prog ((laidWorld os).forCall (fun _ _ => 0) ⟨#[], #[.slice none 0 0], []⟩).memory Tryd.f3.params.toList Rows.fnNumbersSpec.vars false #[Value.slice none 0 0].toList 8 = some ([.nil], [], places) :=
  ⟨[], by kernel_rfl⟩

set_option maxRecDepth 100000 in
theorem lifted (os : Os) (started : os.Started) (H : Type) (enc : TypeId × Value → H) (F : Stop.Interp) :
    ReturnsInHanded {} Tryd.checked os 3 .any ((OpenSpec.ofChange Rows.fnNumbersSpec).preRow enc Tryd.prog Tryd.f3 Rows.fnNumbersRow.domain false Rows.fnNumbersRow.laid) (((OpenSpec.ofChange Rows.fnNumbersSpec).at F).post enc Tryd.prog Tryd.f3 false true false false) := by
  obtain ⟨places, hx⟩ := reads os enc
  refine returnsInHanded_of_row (C := Tryd.checked) (s := OpenSpec.ofChange Rows.fnNumbersSpec) own started (by kernel_rfl) Tryd.func3
    (witness_row_at (enc := enc) (C := Tryd.checked) false (laidWorld os) #[.slice none 0 0] rfl (by kernel_rfl) (by kernel_rfl) (by kernel_rfl)
      (OpenSpec.preRow_of_cond 8 hx (by kernel_rfl) (fun k hk => by cases hk) (by kernel_rfl) (laid_met os))) ?_
  intro W base args ds gs before hval hW _ _ _ hL _ _
  exact contract H enc W base args ds gs before hval hW hL

theorem said : Rows.FnNumbersSaid :=
  OpenClaim.holds_of_cond 3 Tryd.f3 rfl rfl rfl rfl rfl rfl rfl ⟨rfl, rfl, rfl, rfl, rfl⟩ rfl rfl rfl rfl rfl (by kernel_rfl) Tryd.func3 (by kernel_rfl)
    (of_decide_eq_true (by kernel_rfl)) (by unfold Func.isWrapper; first | (rw [if_pos (by decide +kernel)]; kernel_rfl) | (rw [if_neg (by decide +kernel)]; exact ⟨rfl, rfl⟩))
    (fun os started H enc _ F => by rw [OpenClaim.pre_eq_preRow]; exact lifted os started H enc F)

/-- No parameter wants a stand-in; the program's own looks are as the card says. -/
theorem plain (f : FuncId) (fn : Func) (hf : Tryd.pinned.checked.prog.funcNamed "loop.example/g01543/laws.FnNumbers" = some f) (hfn : Tryd.pinned.checked.prog.funcs[f]? = some fn) :
    Rows.fnNumbersCard.stood.looks = Tryd.pinned.checked.prog.looks [] ∧ ∀ (j : Nat) t, fn.params[j]? = some t → Tryd.pinned.checked.prog.wantsStandIn t = false := by
  obtain rfl : f = 3 := Option.some.inj ((show Tryd.prog.funcNamed "loop.example/g01543/laws.FnNumbers" = some 3 by kernel_rfl).symm.trans hf) |>.symm
  obtain rfl : fn = Tryd.f3 := (Option.some.inj (Tryd.func3.symm.trans hfn)).symm
  refine ⟨by kernel_rfl, fun j t ht => ?_⟩
  rw [Tryd.params3] at ht
  have hm := Array.mem_of_getElem? ht
  simp only [List.mem_toArray, List.mem_cons, List.not_mem_nil, or_false] at hm
  rcases hm with rfl
  · exact (show Tryd.prog.wantsStandIn 22 = false by kernel_rfl)

end Go.Proofs.YtjphfigfmbgmkaaDoor.numbers
namespace Go.Proofs.YtjphfigfmbgmkaaDoor
/-- The card. -/
theorem fnNumbers_card : Rows.FnNumbersCardSaid :=
  Claim7.holds_tied_plain_at .later [] _ _ _ _ numbers.said (fun _ h => by cases h) (by kernel_rfl) (fun _ h => by cases h) fnNumbers_row_tie rfl ⟨rfl, rfl⟩ (by kernel_rfl) rfl numbers.plain (by kernel_rfl)
end Go.Proofs.YtjphfigfmbgmkaaDoor
