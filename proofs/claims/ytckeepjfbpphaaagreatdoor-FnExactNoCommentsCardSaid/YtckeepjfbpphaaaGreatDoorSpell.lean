/-
  Chapter 3's spellings and keywords: what impl's tables hold, 'SpellOf', 'KeywordOf', 'NameOk' of both sides: contracts.
-/
import Derived.Test.YtckeepjfbpphaaaGreatDoorRows
import Derived.Test.YtckeepjfbpphaaaGreatDoorBase
import Derived.WalkKit
import Derived.ProofKit
import Derived.OpenShut
import Derived.ShutString
import Derived.ChangeOld
import Derived.Below
import Derived.Laws.Rows
import Derived.WalkSpells
import Derived.WalkLawsBesides
import Derived.Test.YtckeepjfbpphaaaGreatDoorVars
import Derived.Test.YtckeepjfbpphaaaGreatDoorToks
import Derived.Test.YtckeepjfbpphaaaGreatDoorChars
namespace Go.Proofs.YtckeepjfbpphaaaGreatDoor.spell
open Go.ChangeShapes Go.WideShapes Go.ChangeAt Go.RowKit
open toks (words signs builtins place find isIn isBuiltin)
set_option linter.unusedVariables false

theorem gK : Tryz.prog.globalNamed "loop.example/g01543/impl.keywords" = some 0 := by kernel_rfl
theorem gKType : (Tryz.prog.globals[0]?).map (·.type) = some 77 := by kernel_rfl
theorem cellsK : Tryz.prog.cellsOf 77 = 17 := by kernel_rfl
theorem gO : Tryz.prog.globalNamed "loop.example/g01543/impl.operators" = some 1 := by kernel_rfl
theorem gOType : (Tryz.prog.globals[1]?).map (·.type) = some 78 := by kernel_rfl
theorem cellsO : Tryz.prog.cellsOf 78 = 39 := by kernel_rfl
theorem cellsStr : Tryz.prog.cellsOf 9 = 1 := by kernel_rfl

/-- What impl's walks need of the package-level variables. -/
structure Held (w : World) : Prop where
  kw : w.var? Tryz.prog "loop.example/g01543/impl.keywords" = some (Go.Proofs.YtckeepjfbpphaaaGreatDoor.strCells words)
  op : w.var? Tryz.prog "loop.example/g01543/impl.operators" = some (Go.Proofs.YtckeepjfbpphaaaGreatDoor.strCells signs)
theorem Held.below {w w' : World} (h : Held w) (hb : Below w.heap.size w w') : Held w' := ⟨var_stays h.kw hb, var_stays h.op hb⟩
theorem held {W : World} {rest : List (String × DataW Unit)} (h : laidMet Tryz.prog (("loop.example/g01543/impl.keywords", Rows.laid_loop_example_g01543_impl_keywords) :: ("loop.example/g01543/impl.operators", Rows.laid_loop_example_g01543_impl_operators) :: rest) W) : Held W :=
  ⟨strs_of_head (l := words) gK gKType Tryz.underlying77 Tryz.underlying9 cellsStr cellsK h, strs_of_head (l := signs) gO gOType Tryz.underlying78 Tryz.underlying9 cellsStr cellsO h.tail⟩

def spell (n : Int) : ByteArray :=
  if n = 1 then ⟨#[10]⟩ else if 10 ≤ n ∧ n ≤ 26 then words.getD (n - 10).toNat ⟨#[]⟩ else if 30 ≤ n ∧ n ≤ 68 then signs.getD (n - 30).toNat ⟨#[]⟩ else ⟨#[]⟩
theorem spell_word (K : Nat) (h : K < 17) : spell ((K : Int) + 10) = words.getD K ⟨#[]⟩ := by
  unfold spell
  rw [if_neg (by omega), if_pos (by omega)]
  congr 1
  omega
theorem spell_sign (K : Nat) (h : K < 39) : spell ((K : Int) + 30) = signs.getD K ⟨#[]⟩ := by
  unfold spell
  rw [if_neg (by omega), if_neg (by omega), if_pos (by omega)]
  congr 1
  omega
theorem spell_none (n : Int) (h1 : ¬ n = 1) (h2 : ¬ (10 ≤ n ∧ n ≤ 26)) (h3 : ¬ (30 ≤ n ∧ n ≤ 68)) : spell n = ⟨#[]⟩ := by
  unfold spell
  rw [if_neg h1, if_neg h2, if_neg h3]

theorem spec_spell (n : Int) (w : World) : Calls Tryz.prog 72 #[.int .i64 n] w fun e w' => e = .returned (.string (spell n)) ∧ Below w.heap.size w w' := by
  by_cases h1 : n = 1
  · subst h1
    go_enter Tryz.func72, Tryz.ntmps72
    go_wp2
    go_ret
    exact ⟨rfl, Below.refl _ _⟩
  · by_cases h2 : 10 ≤ n ∧ n ≤ 26
    · obtain ⟨K, rfl⟩ : ∃ K : Nat, n = (K : Int) + 10 := ⟨(n - 10).toNat, by omega⟩
      have hK : K < 17 := by omega
      have HS := Lib.hid (spell_word K hK)
      have hr : chars.inR ((K : Int) + 10) 10 26 = true := by simp [chars.inR]; omega
      clear h2
      go_enter Tryz.func72, Tryz.ntmps72
      go_wp2_with (go_at_call 33; refine (chars.spec_in _ _ _ _).mono ?_; rintro e w' ⟨rfl, rfl⟩)
      refine (toks.words_list _).mono ?_
      rintro e w1 ⟨rfl, b1, hh⟩
      have hcell : w1.cell? ⟨w.heap.size, K, none⟩ = some (.string (words.getD K ⟨#[]⟩)) := by
        rw [cell_of_row w1 _ K _ _ _ hh]
        have : K < words.length := hK
        simp [toks.strCells, this, List.getD]
      obtain ⟨x, hx⟩ : ∃ x, x = words.getD K ⟨#[]⟩ := ⟨_, rfl⟩
      have HX := Lib.hid hx
      rw [← hx] at hcell
      clear hx hh
      go_wp2
      go_ret
      exact ⟨by rw [HS.out, ← HX.out]; rfl, b1⟩
    · by_cases h3 : 30 ≤ n ∧ n ≤ 68
      · obtain ⟨K, rfl⟩ : ∃ K : Nat, n = (K : Int) + 30 := ⟨(n - 30).toNat, by omega⟩
        have hK : K < 39 := by omega
        have HS := Lib.hid (spell_sign K hK)
        have hr : chars.inR ((K : Int) + 30) 10 26 = false := by simp [chars.inR]; omega
        have hr2 : chars.inR ((K : Int) + 30) 30 68 = true := by simp [chars.inR]; omega
        clear h2 h3
        go_enter Tryz.func72, Tryz.ntmps72
        go_wp2_with (go_at_call 33; refine (chars.spec_in _ _ _ _).mono ?_; rintro e w' ⟨rfl, rfl⟩)
        refine (toks.signs_list _).mono ?_
        rintro e w1 ⟨rfl, b1, hh⟩
        have hcell : w1.cell? ⟨w.heap.size, K, none⟩ = some (.string (signs.getD K ⟨#[]⟩)) := by
          rw [cell_of_row w1 _ K _ _ _ hh]
          have : K < signs.length := hK
          simp [toks.strCells, this, List.getD]
        obtain ⟨x, hx⟩ : ∃ x, x = signs.getD K ⟨#[]⟩ := ⟨_, rfl⟩
        have HX := Lib.hid hx
        rw [← hx] at hcell
        clear hx hh
        go_wp2
        go_ret
        exact ⟨by rw [HS.out, ← HX.out]; rfl, b1⟩
      · have HS := Lib.hid (spell_none n h1 h2 h3)
        have hr : chars.inR n 10 26 = false := by simp [chars.inR]; omega
        have hr2 : chars.inR n 30 68 = false := by simp [chars.inR]; omega
        clear h2 h3
        go_enter Tryz.func72, Tryz.ntmps72
        go_wp2_with (go_at_call 33; refine (chars.spec_in _ _ _ _).mono ?_; rintro e w' ⟨rfl, rfl⟩)
        go_ret
        exact ⟨by rw [HS.out]; rfl, Below.refl _ _⟩

theorem impl_spell (n : Int) (w : World) (hh : Held w) : Calls Tryz.prog 83 #[.int .i64 n] w fun e w' => e = .returned (.string (spell n)) ∧ w = w' := by
  have HH := Lib.hid hh
  clear hh
  by_cases h1 : n = 1
  · subst h1
    go_enter Tryz.func83, Tryz.ntmps83
    go_wp2
    go_ret
    exact ⟨rfl, rfl⟩
  · by_cases h2 : 10 ≤ n ∧ n ≤ 26
    · obtain ⟨K, rfl⟩ : ∃ K : Nat, n = (K : Int) + 10 := ⟨(n - 10).toNat, by omega⟩
      have hK : K < 17 := by omega
      have HS := Lib.hid (spell_word K hK)
      have hcell := str_cell (l := words) gK HH.out.kw K hK
      obtain ⟨x, hx⟩ : ∃ x, x = words.getD K ⟨#[]⟩ := ⟨_, rfl⟩
      have HX := Lib.hid hx
      rw [← hx] at hcell
      obtain ⟨h2a, h2b⟩ := h2
      clear hx
      go_enter Tryz.func83, Tryz.ntmps83
      go_wp2
      go_ret
      exact ⟨by rw [HS.out, ← HX.out]; rfl, rfl⟩
    · by_cases h3 : 30 ≤ n ∧ n ≤ 68
      · obtain ⟨K, rfl⟩ : ∃ K : Nat, n = (K : Int) + 30 := ⟨(n - 30).toNat, by omega⟩
        have hK : K < 39 := by omega
        have HS := Lib.hid (spell_sign K hK)
        have hcell := str_cell (l := signs) gO HH.out.op K hK
        obtain ⟨x, hx⟩ : ∃ x, x = signs.getD K ⟨#[]⟩ := ⟨_, rfl⟩
        have HX := Lib.hid hx
        rw [← hx] at hcell
        obtain ⟨h3a, h3b⟩ := h3
        have h4 : (10 : Int) ≤ (K : Int) + 30 := by omega
        have h5 : ¬ (K : Int) + 30 ≤ 26 := by omega
        clear hx h2
        go_enter Tryz.func83, Tryz.ntmps83
        go_wp2
        go_ret
        exact ⟨by rw [HS.out, ← HX.out]; rfl, rfl⟩
      · have HS := Lib.hid (spell_none n h1 h2 h3)
        by_cases ha : 10 ≤ n
        · have hb : ¬ n ≤ 26 := by omega
          by_cases hc : 30 ≤ n
          · have hd : ¬ n ≤ 68 := by omega
            clear h2 h3
            go_enter Tryz.func83, Tryz.ntmps83
            go_wp2
            go_ret
            exact ⟨by rw [HS.out]; rfl, rfl⟩
          · clear h2 h3
            go_enter Tryz.func83, Tryz.ntmps83
            go_wp2
            go_ret
            exact ⟨by rw [HS.out]; rfl, rfl⟩
        · have hc : ¬ 30 ≤ n := by omega
          clear h2 h3
          go_enter Tryz.func83, Tryz.ntmps83
          go_wp2
          go_ret
          exact ⟨by rw [HS.out]; rfl, rfl⟩

/-! ### Keywords -/
def keyword (s : ByteArray) : Int := if place words s < words.length then (place words s : Int) + 10 else 0
theorem find_bd (l : List ByteArray) (s : ByteArray) : -1 ≤ find l s ∧ find l s ≤ l.length := by
  unfold find
  split <;> omega
theorem kw_find (s : ByteArray) : (find words s < 0 → keyword s = 0) ∧ (¬ find words s < 0 → keyword s = 10 + find words s) := by
  unfold find keyword
  split <;> constructor <;> intro h <;> omega
theorem kw_here {s : ByteArray} {I : Nat} (hI : I < 17) (h : place words s = I) : keyword s = (I : Int) + 10 := by
  unfold keyword
  rw [h, if_pos (show I < words.length from hI)]
theorem kw_end {s : ByteArray} (h : 17 ≤ place words s) : keyword s = 0 := by
  unfold keyword
  rw [if_neg (show ¬ place words s < words.length by have : words.length = 17 := rfl; omega)]
theorem kw_bd (s : ByteArray) : 0 ≤ keyword s ∧ keyword s ≤ 26 := by
  unfold keyword
  have : words.length = 17 := rfl
  split <;> omega

theorem spec_keyword (s : ByteArray) (w : World) : Calls Tryz.prog 67 #[.string s] w fun e w' => e = .returned (.int .i64 (keyword s)) ∧ Below w.heap.size w w' := by
  obtain ⟨f, hf⟩ : ∃ f, f = find words s := ⟨_, rfl⟩
  have hb := find_bd words s
  rw [← hf] at hb
  have hl : words.length = 17 := rfl
  rw [hl] at hb
  have hk := kw_find s
  rw [← hf] at hk
  have HF := Lib.hid hf
  clear hf hl
  by_cases h0 : f < 0
  · have HK := Lib.hid (hk.1 h0)
    clear hk
    go_enter Tryz.func67, Tryz.ntmps67
    go_wp2_with fail
    refine (toks.words_list _).mono ?_
    rintro e w1 ⟨rfl, b1, h1⟩
    have H1 := Lib.hid h1
    clear h1
    go_wp2_with fail
    refine (toks.find_any words s _ _ H1.out (by decide)).mono ?_
    rintro e w2 ⟨he, rfl⟩
    rw [← HF.out] at he
    subst he
    go_wp2
    go_ret
    exact ⟨by rw [HK.out]; rfl, b1⟩
  · have HK := Lib.hid (hk.2 h0)
    clear hk
    go_enter Tryz.func67, Tryz.ntmps67
    go_wp2_with fail
    refine (toks.words_list _).mono ?_
    rintro e w1 ⟨rfl, b1, h1⟩
    have H1 := Lib.hid h1
    clear h1
    go_wp2_with fail
    refine (toks.find_any words s _ _ H1.out (by decide)).mono ?_
    rintro e w2 ⟨he, rfl⟩
    rw [← HF.out] at he
    subst he
    go_wp2
    go_ret
    exact ⟨by rw [HK.out]; rfl, b1⟩

/-- The loop's relation. -/
def RelK (s : ByteArray) (k : Value) : Prop := ∃ I : Nat, I ≤ 17 ∧ k = .int .i64 ((I : Int) + 10) ∧ I ≤ place words s
def kOf (v : Value) : Nat := (intOf v).toNat

theorem impl_keyword (s : ByteArray) (w : World) (hh : Held w) : Calls Tryz.prog 77 #[.string s] w fun e w' => e = .returned (.int .i64 (keyword s)) ∧ w = w' := by
  have HH := Lib.hid hh
  clear hh
  go_enter Tryz.func77, Tryz.ntmps77
  go_wp2
  go_loop [3] (fun k => RelK s k) (fun k => 27 - (intOf k).toNat)
  case atStart => exact ⟨0, by omega, rfl, by omega⟩
  case round =>
    obtain ⟨I, hI, rfl, hp⟩ := hrel
    have HP := Lib.hid hp
    clear hp
    by_cases hlt : I < 17
    · have hi1 : (I : Int) + 10 ≤ 26 := by omega
      obtain ⟨x, hx⟩ : ∃ x, x = spell ((I : Int) + 10) := ⟨_, rfl⟩
      have hxe : x = words.getD I ⟨#[]⟩ := hx.trans (spell_word I hlt)
      have HX := Lib.hid hx
      clear hx
      by_cases he : x = s
      · have HE := Lib.hid (kw_here hlt (toks.place_here hlt HP.out (hxe.symm.trans he)))
        have ht : (x.toList == s.toList) = true := by rw [he]; exact beq_self_eq_true _
        clear hxe he
        go_wp2_with (go_at_call 83; refine (impl_spell _ _ HH.out).mono ?_; rw [← HX.out]; rintro e w' ⟨rfl, rfl⟩)
        go_ret
        exact ⟨by rw [HE.out]; rfl, rfl⟩
      · have HE := Lib.hid (toks.place_next hlt HP.out (fun h => he (hxe.trans h)))
        have ht : (x.toList == s.toList) = false := by
          rw [beq_eq_false_iff_ne, ByteArray.toList_eq, ByteArray.toList_eq]
          intro h
          exact he (ByteArray.ext (Array.toList_inj.1 h))
        clear hxe he
        go_wp2_with (go_at_call 83; refine (impl_spell _ _ HH.out).mono ?_; rw [← HX.out]; rintro e w' ⟨rfl, rfl⟩)
        go_round
        case rel => exact ⟨I + 1, by omega, by go_num, HE.out⟩
        case measure => simp [intOf]; omega
    · obtain rfl : I = 17 := by omega
      have HE := Lib.hid (kw_end HP.out)
      go_wp2
      go_ret
      exact ⟨by rw [HE.out]; rfl, rfl⟩

/-! ### Names -/
def nameOk (s : ByteArray) : Bool := chars.nameShape s && (keyword s == 0 && !isBuiltin s)

theorem spec_name (s : ByteArray) (w : World) (hs : s.size ≤ 1048576) : Calls Tryz.prog 51 #[.string s] w fun e w' => e = .returned (.bool (nameOk s)) ∧ Below w.heap.size w w' := by
  by_cases h1 : chars.nameShape s = true
  · by_cases h2 : keyword s = 0
    · have HE := Lib.hid (show nameOk s = !isBuiltin s by simp [nameOk, h1, h2])
      have H2 := Lib.hid h2
      have h2' : (keyword s == 0) = true := by rw [h2]; rfl
      clear h2
      go_enter Tryz.func51, Tryz.ntmps51
      go_wp2_with (go_at_call 66; refine (chars.spec_shape s _ hs).mono ?_; rintro e w' ⟨rfl, rfl⟩)
      refine (spec_keyword s _).mono ?_
      rintro e w1 ⟨rfl, b1⟩
      go_wp2_with fail
      refine (toks.spec_builtin s _).mono ?_
      rintro e w2 ⟨rfl, b2⟩
      go_wp2
      go_ret
      exact ⟨by rw [HE.out]; rfl, b1.trans (b2.mono b1.size)⟩
    · have HE := Lib.hid (show nameOk s = false by simp [nameOk, h2])
      have h2' : (keyword s == 0) = false := by rw [beq_eq_false_iff_ne]; exact h2
      clear h2
      go_enter Tryz.func51, Tryz.ntmps51
      go_wp2_with (go_at_call 66; refine (chars.spec_shape s _ hs).mono ?_; rintro e w' ⟨rfl, rfl⟩)
      refine (spec_keyword s _).mono ?_
      rintro e w1 ⟨rfl, b1⟩
      go_wp2
      go_ret
      exact ⟨by rw [HE.out]; rfl, b1⟩
  · have h1' : chars.nameShape s = false := by simpa using h1
    have HE := Lib.hid (show nameOk s = false by simp [nameOk, h1'])
    clear h1
    go_enter Tryz.func51, Tryz.ntmps51
    go_wp2_with (go_at_call 66; refine (chars.spec_shape s _ hs).mono ?_; rintro e w' ⟨rfl, rfl⟩)
    go_ret
    exact ⟨by rw [HE.out]; rfl, Below.refl _ _⟩

theorem impl_name (s : ByteArray) (w : World) (hs : s.size ≤ 1048576) (hh : Held w) : Calls Tryz.prog 59 #[.string s] w fun e w' => e = .returned (.bool (nameOk s)) ∧ w = w' := by
  have HH := Lib.hid hh
  clear hh
  by_cases h1 : chars.nameShape s = true
  · by_cases h2 : keyword s = 0
    · have HE := Lib.hid (show nameOk s = !isBuiltin s by simp [nameOk, h1, h2])
      have h2' : (keyword s == 0) = true := by rw [h2]; rfl
      clear h2
      go_enter Tryz.func59, Tryz.ntmps59
      go_wp2_with (first | (go_at_call 76; refine (chars.impl_shape s _ hs).mono ?_; rintro e w' ⟨rfl, rfl⟩) | (go_at_call 77; refine (impl_keyword s _ HH.out).mono ?_; rintro e w' ⟨rfl, rfl⟩) | (go_at_call 60; refine (toks.impl_builtin s _).mono ?_; rintro e w' ⟨rfl, rfl⟩))
      go_ret
      exact ⟨by rw [HE.out]; rfl, rfl⟩
    · have HE := Lib.hid (show nameOk s = false by simp [nameOk, h2])
      have h2' : (keyword s == 0) = false := by rw [beq_eq_false_iff_ne]; exact h2
      clear h2
      go_enter Tryz.func59, Tryz.ntmps59
      go_wp2_with (first | (go_at_call 76; refine (chars.impl_shape s _ hs).mono ?_; rintro e w' ⟨rfl, rfl⟩) | (go_at_call 77; refine (impl_keyword s _ HH.out).mono ?_; rintro e w' ⟨rfl, rfl⟩))
      go_ret
      exact ⟨by rw [HE.out]; rfl, rfl⟩
  · have h1' : chars.nameShape s = false := by simpa using h1
    have HE := Lib.hid (show nameOk s = false by simp [nameOk, h1'])
    clear h1
    go_enter Tryz.func59, Tryz.ntmps59
    go_wp2_with (go_at_call 76; refine (chars.impl_shape s _ hs).mono ?_; rintro e w' ⟨rfl, rfl⟩)
    go_ret
    exact ⟨by rw [HE.out]; rfl, rfl⟩
end Go.Proofs.YtckeepjfbpphaaaGreatDoor.spell
