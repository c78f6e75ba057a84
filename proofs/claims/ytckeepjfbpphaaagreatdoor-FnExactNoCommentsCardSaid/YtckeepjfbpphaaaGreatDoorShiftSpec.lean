/-
  spec.l6Shift: nodes in new memory whose kids are so much further on: a contract.
-/
import Derived.Test.YtckeepjfbpphaaaGreatDoorPartImpl
namespace Go.Proofs.YtckeepjfbpphaaaGreatDoor.nd
open Go.ChangeShapes Go.WideShapes Go.ChangeAt Go.RowKit
set_option linter.unusedVariables false

theorem cell4 {w : World} {g : Nat} {v0 v1 v2 v3 v4 : Value} {e : TypeId} (h : w.heap[g]? = some (.cells #[v0, v1, v2, v3, v4] e (0, 0))) : w.cell? ⟨g, 4, none⟩ = some v4 := by rw [cell_of_row _ _ 4 _ _ _ h]; rfl
theorem cell_past {w : World} {b o : Nat} {v : Value} (z : Obj) (h : w.cell? ⟨b, o, none⟩ = some v) : (w.alloc z).cell? ⟨b, o, none⟩ = some v :=
  (((Below.refl w.heap.size w).alloc (Nat.le_refl _) z).cell (p := ⟨b, o, none⟩) (World.block_lt_of_cell? w _ h)).trans h
theorem wrap_eq (z : Int) : IntKind.i64.wrap z = wrap64 z := by rw [IntKind.wrap_i64]; unfold wrap64; omega
def RelSs (B : Nat) (W : World) (q : List Nd) (v j : Value) (wr : World) : Prop :=
  ∃ (J : Nat) (z : List (Nd × Value)) (r : Nat → Nat), J ≤ q.length ∧ PT B v z r wr ∧ z.map (·.1) = q.take J ∧ j = .int .i64 (J : Int) ∧ Below B W wr ∧ ∀ i, i < z.length → B ≤ r i
/-- .. no row lies below what was there. -/
def PgOut (l : List Nd) (w : World) (e : Ending) (w' : World) : Prop :=
  ∃ v z r, e = .returned v ∧ z.map (·.1) = l ∧ PT w.heap.size v z r w' ∧ Below w.heap.size w w' ∧ ∀ i, i < z.length → w.heap.size ≤ r i
/-- What the inner loop holds: the node's box at g, its kids so far. -/
def RelSk (g : Nat) (W : World) (t : Nd) (x : Int) (k : Value) (wr : World) : Prop :=
  ∃ (K : Nat) (v : Value), K ≤ t.kids.length ∧ k = .int .i64 (K : Int) ∧ OwnI (g + 1) v (shK x (t.kids.take K)) wr ∧ wr.heap[g]? = some (.cells #[.int .i64 t.k, .int .i64 t.op, .string t.s, .string t.t, v] 36 (0, 0)) ∧ Below g W wr

set_option maxRecDepth 20000 in
set_option maxHeartbeats 3200000 in
theorem spec_shift2 (l : List Nd) (x : Int) (a : Option Addr) (cap : Nat) (w : World) (hn : l.length ≤ 1048576) (hk : ∀ t ∈ l, t.kids.length ≤ 1048576) (hc : Lies w.heap.size w a l) :
    Calls Tryz.prog 41 #[.slice a l.length cap, .int .i64 x] w (PgOut (l.map (shN x)) w) := by
  have HC := Lib.hid hc
  have HK := Lib.hid hk
  have HPT0 := Lib.hid (PT.lit (Nat.le_refl w.heap.size))
  clear hc hk
  go_enter Tryz.func41, Tryz.ntmps41
  go_wp2
  go_loopw [5, 6] (fun v j wr => RelSs w.heap.size w (l.map (shN x)) v j wr) (fun _ j _ => l.length - (intOf j).toNat)
  case atStart => exact ⟨0, [], _, by omega, HPT0.out, by simp, rfl, (Below.refl _ _).alloc (Nat.le_refl _) _, fun i hi => by simp at hi⟩
  case round =>
    obtain ⟨J, z, r, hJ, hpt, hz, rfl, hbel, hge⟩ := hrel
    have HGE := Lib.hid hge
    clear hge
    have HPT := Lib.hid hpt
    have HZ := Lib.hid hz
    have HB := Lib.hid hbel
    rw [List.length_map] at hJ
    have hzl : z.length = J := by
      have := congrArg List.length hz
      rw [List.length_map, List.length_take, List.length_map] at this
      omega
    have HZL := Lib.hid hzl
    obtain ⟨av, cv, rfl⟩ := hpt.form
    clear hpt hz hbel hzl
    by_cases hlt : J < l.length
    · obtain ⟨b, o, rfl, hb, hcell⟩ := lies_at HC.out hlt
      obtain ⟨ak, ck, h5, hik⟩ := hcell J hlt
      have HCW := Lib.hid h5
      obtain ⟨c0, c1, c2, c3, c4⟩ := h5.keep HB.out hb
      have HKK := Lib.hid (HK.out l[J] (List.getElem_mem hlt))
      have HSTEP := Lib.hid (show (l.map (shN x)).take (J + 1) = (l.map (shN x)).take J ++ [shN x l[J]] by
        rw [List.take_succ_eq_append_getElem (by simpa using hlt), List.getElem_map])
      obtain ⟨t, ht⟩ : ∃ t, t = l[J] := ⟨_, rfl⟩
      rw [← ht] at c0 c1 c2 c3 c4 hik HSTEP HKK HCW
      have HIK := Lib.hid hik
      have hkl := HKK.out
      have hj1 : (J : Int) < (l.length : Int) := by omega
      have hj0 : (0 : Int) ≤ (J : Int) := by omega
      clear ht h5 hik hcell
      obtain ⟨wo, hwo⟩ : ∃ wo, wo = wr := ⟨_, rfl⟩
      rw [← hwo] at c0 c1 c2 c3 c4 HB HPT ⊢
      clear hwo
      go_wp2
      obtain ⟨g, hg⟩ : ∃ g, g = wo.heap.size := ⟨_, rfl⟩
      have HG := Lib.hid hg
      rw [← hg]
      clear hg
      go_loopw [8] (fun k wr => RelSk g wo t x k wr) (fun k _ => t.kids.length - (intOf k).toNat)
      case atStart =>
        have hsz : (wo.alloc (.cells #[.int .i64 t.k, .int .i64 t.op, .string t.s, .string t.t, .slice (some ⟨g + 1, 0, none⟩) 0 0] 36)).heap.size = g + 1 := by simp [HG.out]
        have ho := OwnI.lit (B := g + 1) (w := wo.alloc (.cells #[.int .i64 t.k, .int .i64 t.op, .string t.s, .string t.t, .slice (some ⟨g + 1, 0, none⟩) 0 0] 36)) (by rw [hsz]; exact Nat.le_refl _)
        rw [hsz] at ho
        refine ⟨0, _, by omega, rfl, ho, ?_, by rw [HG.out]; exact ((Below.refl _ _).alloc (Nat.le_refl _) _).alloc (by simp) _⟩
        rw [Below.heap_alloc _ _ _ (by rw [hsz]; omega), HG.out]
        exact heap_alloc_new wo _
      case round =>
        obtain ⟨K, v, hK, rfl, hown, hbox, hbel⟩ := hrel
        have HOWN := Lib.hid hown
        have HBOX := Lib.hid hbox
        have HBW := Lib.hid hbel
        obtain ⟨uv, uc, rfl⟩ := hown.form
        have hwg : w.heap.size ≤ g := by rw [HG.out]; exact HB.out.size
        have hbg : b < g := by omega
        have q4 := (HBW.out.cell (p := ⟨b, o + J * 5 + 4, none⟩) (show b < g by omega)).trans c4
        have b4 : wr.cell? ⟨g, 4, none⟩ = some (.slice uv (shK x (t.kids.take K)).length uc) := by rw [cell_of_row _ _ 4 _ _ _ hbox]; rfl
        have f4 : wr.frozen? ⟨g, 4, none⟩ = false := frozen_of_row _ _ 4 _ _ hbox
        have HWG := Lib.hid hwg
        clear hown hbox hbel hwg hbg
        by_cases hkt : K < t.kids.length
        · have HKL := Lib.hid (shK_step x hkt)
          obtain ⟨bk, ok, rfl, hbk, hkc⟩ := ints_at HIK.out hkt
          have d0 := (HBW.out.cell (p := ⟨bk, ok + K, none⟩) (show bk < g by have := HWG.out; omega)).trans ((HB.out.cell (p := ⟨bk, ok + K, none⟩) hbk).trans (hkc K hkt))
          obtain ⟨y, hy⟩ : ∃ y, y = t.kids[K] := ⟨_, rfl⟩
          rw [← hy] at d0 HKL
          have hk1 : (K : Int) < (t.kids.length : Int) := by omega
          have hk0 : (0 : Int) ≤ (K : Int) := by omega
          have HO := Lib.hid (fun W' (hb : Below wr.heap.size wr W') => HOWN.out.keep hb (Nat.le_refl _))
          have HIL := Lib.hid (show (shK x (t.kids.take K)).length ≤ 1048576 by rw [shK_len, List.length_take]; omega)
          have HGL := Lib.hid (lt_of_heap HBOX.out)
          have B4 : ∀ z, (wr.alloc z).cell? ⟨g, 4, none⟩ = some (.slice uv (shK x (t.kids.take K)).length uc) := fun z => cell_past z b4
          clear hy hkc
          go_wp2
          go_region_law (first | (refine step_append_int (by rfl) _ _ (by rfl) (g + 1) _ _ (IntKind.i64.wrap (y + x)) (by rfl) (HO.out _ (by first | exact (Below.refl _ wr).alloc (Nat.le_refl _) _ | exact ((Below.refl _ wr).alloc (Nat.le_refl _) _).drew | exact ((Below.refl _ wr).drew).alloc (Nat.le_refl _) _)) wr.heap.size (by rfl) (by exact heap_alloc_new wr _) HIL.out (by simp; exact Nat.le_of_lt HGL.out) ?_; intro g2 cap2 w3 own3 b3; have hbox3 : w3.heap[g]? = some (.cells #[.int .i64 t.k, .int .i64 t.op, .string t.s, .string t.t, .slice uv (shK x (t.kids.take K)).length uc] 36 (0, 0)) := (b3.block g (Nat.lt_succ_self g)).trans ((Below.heap_alloc wr _ g HGL.out).trans HBOX.out); have x4 : w3.cell? ⟨g, 4, none⟩ = some (.slice uv (shK x (t.kids.take K)).length uc) := cell4 hbox3; have y4 : w3.frozen? ⟨g, 4, none⟩ = false := frozen_of_row _ _ 4 _ _ hbox3))
          all_goals
            go_wp2
            go_roundw
            case rel =>
              have hbe : Below g wo (w3.setCell ⟨g, 4, none⟩ (.slice (some ⟨g2, 0, none⟩) ((shK x (t.kids.take K)).length + 1) cap2)) :=
                (HBW.out.trans ((((Below.refl wr.heap.size wr).alloc (Nat.le_refl _) _).drew.mono (Nat.le_of_lt HGL.out)).trans (b3.mono (Nat.le_succ g)))).setCell (p := ⟨g, 4, none⟩) (Nat.le_refl _) _
              rw [wrap_eq, ← HKL.out] at own3
              have ho := ownsRow_setCell_below own3 (a := ⟨g, 4, none⟩) (Nat.lt_succ_self g) (.slice (some ⟨g2, 0, none⟩) ((shK x (t.kids.take K)).length + 1) cap2)
              exact ⟨K + 1, _, by omega, by go_num, ho, heap_setCell_same w3 g 4 _ _ _ hbox3, hbe⟩
            case measure => simp [intOf]; omega
        · have hKt : K = t.kids.length := by omega
          have HO := Lib.hid (show OwnI (g + 1) (.slice uv t.kids.length uc) (shK x t.kids) wr by have := HOWN.out; rwa [List.take_of_length_le (by omega), shK_len] at this)
          have e4 : (shK x (t.kids.take K)).length = t.kids.length := by rw [shK_len, List.length_take]; omega
          rw [e4] at b4 HBOX
          have b0 : wr.cell? ⟨g, 0, none⟩ = some (.int .i64 t.k) := by rw [cell_of_row _ _ 0 _ _ _ HBOX.out]; rfl
          have b1 : wr.cell? ⟨g, 1, none⟩ = some (.int .i64 t.op) := by rw [cell_of_row _ _ 1 _ _ _ HBOX.out]; rfl
          have b2 : wr.cell? ⟨g, 2, none⟩ = some (.string t.s) := by rw [cell_of_row _ _ 2 _ _ _ HBOX.out]; rfl
          have b3 : wr.cell? ⟨g, 3, none⟩ = some (.string t.t) := by rw [cell_of_row _ _ 3 _ _ _ HBOX.out]; rfl
          have hg0 : g + 1 ≤ wr.heap.size := lt_of_heap HBOX.out
          have hwr : w.heap.size ≤ wr.heap.size := Nat.le_trans HWG.out (by omega)
          have HWR := Lib.hid hwr
          have hup : ∀ q, (Value.slice uv t.kids.length uc).ownBlock = some q → g ≤ q := fun q hq => Nat.le_of_succ_le (World.ownsRow.lt HO.out q hq).1
          obtain ⟨bk, hbk1, hbk2, hkv⟩ := KidV.of_own (HO.out.up (Nat.le_succ_of_le HWG.out)) g hg0 HWG.out hup
          have HPT2 := Lib.hid (HPT.out.keep HBW.out (by rw [HG.out]; exact Nat.le_refl _))
          have hoff : (Value.slice av z.length cv).ownBlock ≠ some bk := fun e => by
            have := (World.ownsRow.lt HPT.out.own bk e).2
            have := HG.out
            omega
          have hrb : ∀ i, i < z.length → r i ≠ bk := fun i hi => Nat.ne_of_lt (Nat.lt_of_lt_of_le (HPT.out.lt i hi) (by have := HG.out; omega))
          have HZLE := Lib.hid (show z.length ≤ 1048576 by rw [HZL.out]; omega)
          have HKV := Lib.hid (show KidV w.heap.size wr bk (.slice uv t.kids.length uc) (shN x t).kids from hkv)
          have HOFF := Lib.hid hoff
          have HRB := Lib.hid hrb
          have HBK := Lib.hid hbk2
          have HBK1 := Lib.hid (Nat.le_trans HWG.out hbk1)
          have hk1 : ¬ (K : Int) < (t.kids.length : Int) := by omega
          have HBB := Lib.hid (HB.out.trans (HBW.out.mono HWG.out))
          clear hg0 hwr hup hkv hoff hrb hbk1 hbk2 e4 hKt
          go_wp2_with (refine wpList_append_node _ (shN x t) _ rfl _ _ rfl w.heap.size _ z r bk rfl HPT2.out rfl rfl HZLE.out HWR.out HKV.out HRB.out HBK.out HOFF.out ?_; intro v' r' w4 pt4 b4' rr1 rr2)
          go_roundw
          case rel =>
            refine ⟨J + 1, _, r', by rw [List.length_map]; omega, pt4, ?_, by go_num, HBB.out.trans b4', fun i hi => ?_⟩
            · rw [List.map_append, HZ.out, HSTEP.out]
              rfl
            · simp at hi
              by_cases he : i < z.length
              · rw [rr1 i he]; exact HGE.out i he
              · rw [show i = z.length by omega, rr2]; exact HBK1.out
          case measure => simp [intOf]; omega
    · obtain rfl : J = l.length := by omega
      go_wp2
      go_ret
      exact ⟨_, z, r, rfl, by rw [HZ.out, List.take_of_length_le (by simp)], HPT.out, HB.out, HGE.out⟩

theorem spec_shift (l : List Nd) (x : Int) (a : Option Addr) (cap : Nat) (w : World) (hn : l.length ≤ 1048576) (hk : ∀ t ∈ l, t.kids.length ≤ 1048576) (hc : Lies w.heap.size w a l) :
    Calls Tryz.prog 41 #[.slice a l.length cap, .int .i64 x] w (PtOut (l.map (shN x)) w) :=
  (spec_shift2 l x a cap w hn hk hc).mono fun e w' ⟨v, z, r, h1, h2, h3, h4, _⟩ => ⟨v, z, r, h1, h2, h3, h4⟩
end Go.Proofs.YtckeepjfbpphaaaGreatDoor.nd
