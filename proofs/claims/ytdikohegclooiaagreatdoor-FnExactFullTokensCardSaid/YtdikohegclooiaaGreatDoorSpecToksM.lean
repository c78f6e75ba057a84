/-
  spec.l10Node and spec.l10At at every node of a right tree; spec.ExprTokens, spec.FullTokens: contracts.
-/
import Derived.Test.YtdikohegclooiaaGreatDoorGA
import Derived.Test.YtdikohegclooiaaGreatDoorSpecAtF
import Derived.Test.YtdikohegclooiaaGreatDoorGC
namespace Go.Proofs.YtdikohegclooiaaGreatDoor.st
open Go.ChangeShapes Go.WideShapes Go.ChangeAt Go.RowKit
open tk (Tk)
open nd (Nd Ints)
open ps (Ps posOk kidI top)
open spell (Held)
open et
set_option linter.unusedVariables false
set_option linter.unusedSimpArgs false
set_option maxRecDepth 20000

theorem node_any {l : List Nd} {a : Option Addr} {m cap : Nat} {fl : Bool} {i : Nat} {E U : Nat → Ps → List Tk} (n : Nd) (hg : et.Good l i n) (hm : m = l.length) (hmx : m ≤ 1048576) (hi : i < m) (hn : l.getD i default = n) (hGG : ∀ p : Ps, posOk p.l p.d = true → Gis l a m cap fl i n p E U) : CallS 38 l a m cap fl i (fun q => body E U n q) := by
  have hr := expr_range hg.kind
  by_cases c1 : n.k = 1
  · exact node_name n c1 hm hmx hi hn hGG
  by_cases c2 : n.k = 2
  · exact node_num n c2 hm hmx hi hn hGG
  by_cases c3 : n.k = 3
  · exact node_str n c3 hm hmx hi hn hGG
  by_cases c4 : n.k = 4
  · exact node_ere n c4 hm hmx hi hn hGG
  by_cases c5 : n.k = 5
  · exact node_index n c5 hm hmx hi hn hGG
  by_cases c6 : n.k = 6
  · exact node_field n c6 hm hmx hi hn hGG
  by_cases c7 : n.k = 7
  · exact node_call n c7 hm hmx hi hn hGG
  by_cases c8 : n.k = 8
  · exact node_builtin n c8 hm hmx hi hn hGG
  by_cases c9 : n.k = 9
  · exact node_pre n c9 hm hmx hi hn hGG
  by_cases c10 : n.k = 10
  · exact node_post n c10 hm hmx hi hn hGG
  by_cases c11 : n.k = 11
  · exact node_unary n c11 hm hmx hi hn hGG
  by_cases c12 : n.k = 12
  · exact node_bin n c12 hm hmx hi hn hGG
  by_cases c13 : n.k = 13
  · exact node_in n c13 hm hmx hi hn hGG
  by_cases c14 : n.k = 14
  · exact node_cond n c14 hm hmx hi hn hGG
  exact node_assign n (by omega) hm hmx hi hn hGG

theorem lst_bd (E : Nat → Ps → List Tk) (n : Nd) (h : ∀ K, K < n.kids.length → (E (kd n K) top).length ≤ 3200) : ∀ J, J ≤ n.kids.length → (lst E n J).length ≤ J * 3201 := by
  intro J
  induction J with
  | zero => intro _; simp [lst]
  | succ J ih =>
    intro hJ
    have h1 := ih (by omega)
    have h2 := h J (by omega)
    rw [lst_succ, List.length_append, List.length_append]
    split
    · simp; omega
    · simp; omega
/-- The contracts at every node. -/
theorem all_nd {a : Option Addr} {cap : Nat} {fl : Bool} {l : List Nd} {enc : Nd → Ps → Bool} (ht : rt.treeOk l = true) (hw : et.Way enc) (hmx : l.length ≤ 1048576)
    (hAt : ∀ (U : Nat → Ps → List Tk) (i : Nat) (n : Nd), i < l.length → l.getD i default = n → (∀ q, (U i q).length ≤ 100000) → CallS 38 l a l.length cap fl i (U i) → CallS 20 l a l.length cap fl i (par enc l U i)) :
    ∀ (f i : Nat), i < f → i < l.length → rt.isExpr (l.getD i default).k = true → CallS 38 l a l.length cap fl i (un enc l f i) := by
  intro f
  induction f with
  | zero => intro i hi; omega
  | succ f ih =>
    intro i hi hl hk
    obtain ⟨n, hn⟩ : ∃ n, l.getD i default = n := ⟨_, rfl⟩
    rw [hn] at hk
    have g := et.Good.at ht hl hn hk
    have e : un enc l (f + 1) i = fun q => body (ex enc l f) (un enc l f) n q := by
      funext q
      rw [un_succ, hn]
    have h400 := (nd.shape_yes (tree_parts ht).1).2.1
    have hU : ∀ K, K < n.kids.length → ∀ q, (un enc l f (et.kd n K) q).length ≤ 3200 := fun K hK q => by
      obtain ⟨k1, k2, k3⟩ := g.kids K hK
      have h1 := un_len (enc := enc) ht f (et.kd n K) q (by omega) (by omega) k3
      have h2 : sz l (et.kd n K) ≤ et.kd n K + 1 := by unfold sz; omega
      omega
    have hE : ∀ K, K < n.kids.length → ∀ q, (ex enc l f (et.kd n K) q).length ≤ 3200 := fun K hK q => by
      obtain ⟨k1, k2, k3⟩ := g.kids K hK
      exact ex_len ht (by omega) (by omega) k3
    rw [e]
    refine node_any n g rfl hmx hl hn fun p hp => ⟨g, hp, fun K hK => ?_, fun h0 => ?_, fun K hK q => Nat.le_trans (hE K hK q) (by omega), fun h0 q => Nat.le_trans (hU 0 h0 q) (by omega), ?_, fun hkk q hq => ?_⟩
    · obtain ⟨k1, k2, k3⟩ := g.kids K hK
      exact hAt (un enc l f) (et.kd n K) _ (by omega) rfl (fun q => Nat.le_trans (hU K hK q) (by omega)) (ih (et.kd n K) (by omega) (by omega) k3)
    · obtain ⟨k1, k2, k3⟩ := g.kids 0 h0
      exact ih (et.kd n 0) (by omega) (by omega) k3
    · have := lst_bd (ex enc l f) n (fun K hK => hE K hK top) n.kids.length (Nat.le_refl _)
      have := g.most
      have : n.kids.length * 3201 ≤ 6 * 3201 := Nat.mul_le_mul_right _ g.most
      omega
    · have hlen : 0 < n.kids.length := by
        rcases hkk with h | h | h
        · have := g.one (by omega); omega
        · have := g.one (by omega); omega
        · have := g.two (by omega); omega
      obtain ⟨k1, k2, k3⟩ := g.kids 0 hlen
      have hlv := g.lval hkk
      simp only [rt.isLval, Bool.or_eq_true, beq_iff_eq] at hlv
      exact indep hw ht f (et.kd n 0) q _ (by omega) (by omega) k3 (by omega) hq (show posOk 14 false = true by decide)
theorem emp (w0 w : World) (h : Below w0.heap.size w0 w) : Below w0.heap.size w0 (w.alloc (.cells #[] 56)) ∧ own.Own w0.heap.size (.slice (some ⟨w.heap.size, 0, none⟩) 0 0) [] (w.alloc (.cells #[] 56)) :=
  ⟨h.alloc h.size _, lit0 _ w h.size _ rfl⟩

set_option maxHeartbeats 1600000 in
theorem spec_ExprTokens (l : List Nd) (a : Option Addr) (cap : Nat) (p : Ps) (w : World) (hn : l.length ≤ 1048576) (hk : ∀ t ∈ l, t.kids.length ≤ 1048576) (hs : ∀ t ∈ l, t.s.size ≤ 1048576 ∧ t.t.size ≤ 1048576) (hc : nd.Lies w.heap.size w a l) :
    Calls Tryz.prog 6 #[.slice a l.length cap, .agg #[.int .i64 p.l, .bool p.d, .bool p.i, .bool p.g, .bool p.s]] w (Out (tw.etoks l p) w) := by
  have HC := Lib.hid hc
  have HN := Lib.hid hn
  have HK := Lib.hid hk
  have HS := Lib.hid hs
  have HB0 := Lib.hid (show Below w.heap.size w (w.alloc (.cells #[.int .i64 p.l, .bool p.d, .bool p.i, .bool p.g, .bool p.s] 30)) from ((Below.refl w.heap.size w).alloc (Nat.le_refl _) _))
  clear hc hk hs
  cases hx : rt.exprOk l
  · have HE := Lib.hid (show tw.etoks l p = [] by unfold tw.etoks; rw [if_neg (by simp [hx])])
    have HX := Lib.hid hx
    go_enter Tryz.func6, Tryz.ntmps6
    go_wp2_with fail
    refine (rt.spec_expr l a cap _ HN.out HK.out HS.out (HC.out.on HB0.out (Nat.le_refl _))).mono ?_
    rw [HX.out]
    rintro e w1 ⟨rfl, b1⟩
    have B1 := Lib.hid (HB0.out.trans (b1.mono HB0.out.size))
    clear b1
    obtain ⟨E1, E2⟩ := emp w _ B1.out
    have HE1 := Lib.hid E1
    have HE2 := Lib.hid E2
    clear E1 E2
    go_wp2
    go_ret
    refine ⟨_, rfl, HE1.out, ?_⟩
    rw [HE.out]
    exact HE2.out
  have HX := Lib.hid hx
  cases hp : posOk p.l p.d
  · have HE := Lib.hid (show tw.etoks l p = [] by unfold tw.etoks; rw [if_neg (by simp [hp])])
    have HP := Lib.hid hp
    have HZ := Lib.hid (show ∀ w1, Below (w.alloc (.cells #[.int .i64 p.l, .bool p.d, .bool p.i, .bool p.g, .bool p.s] 30)).heap.size (w.alloc (.cells #[.int .i64 p.l, .bool p.d, .bool p.i, .bool p.g, .bool p.s] 30)) w1 → w1.cell? ⟨w.heap.size, 0, none⟩ = some (.int .i64 p.l) ∧ w1.cell? ⟨w.heap.size, 1, none⟩ = some (.bool p.d) ∧ w1.cell? ⟨w.heap.size, 2, none⟩ = some (.bool p.i) ∧ w1.cell? ⟨w.heap.size, 3, none⟩ = some (.bool p.g) ∧ w1.cell? ⟨w.heap.size, 4, none⟩ = some (.bool p.s) from fun w1 hb => by
      have hb1 := (hb.block w.heap.size (by simp)).trans (heap_alloc_new w (.cells #[.int .i64 p.l, .bool p.d, .bool p.i, .bool p.g, .bool p.s] 30))
      exact ⟨by rw [cell_of_row _ _ 0 _ _ _ hb1]; rfl, by rw [cell_of_row _ _ 1 _ _ _ hb1]; rfl, by rw [cell_of_row _ _ 2 _ _ _ hb1]; rfl, by rw [cell_of_row _ _ 3 _ _ _ hb1]; rfl, by rw [cell_of_row _ _ 4 _ _ _ hb1]; rfl⟩)
    clear hx hp
    go_enter Tryz.func6, Tryz.ntmps6
    go_wp2_with fail
    refine (rt.spec_expr l a cap _ HN.out HK.out HS.out (HC.out.on HB0.out (Nat.le_refl _))).mono ?_
    rw [HX.out]
    rintro e w1 ⟨rfl, b1⟩
    have B1 := Lib.hid (HB0.out.trans (b1.mono HB0.out.size))
    obtain ⟨p0, p1, p2, p3, p4⟩ := HZ.out w1 b1
    clear b1
    go_wp2_with fail
    refine (ps.spec_ok p.l p.d p.i p.g p.s _).mono ?_
    rw [HP.out]
    rintro e w2 ⟨rfl, b2⟩
    have B2 := Lib.hid (B1.out.trans (b2.mono B1.out.size))
    clear b2
    obtain ⟨E1, E2⟩ := emp w _ B2.out
    have HE1 := Lib.hid E1
    have HE2 := Lib.hid E2
    clear E1 E2
    go_wp2
    go_ret
    refine ⟨_, rfl, HE1.out, ?_⟩
    rw [HE.out]
    exact HE2.out
  have HE := Lib.hid (show tw.etoks l p = ex mis l l.length (l.length - 1) p by unfold tw.etoks; rw [if_pos ⟨hx, hp⟩])
  have HX := Lib.hid hx
  obtain ⟨ht, h0, hlast⟩ := tw.expr_parts hx
  have hAt : ∀ (U : Nat → Ps → List Tk) (i : Nat) (n : Nd), i < l.length → l.getD i default = n → (∀ q, (U i q).length ≤ 100000) → CallS 38 l a l.length cap false i (U i) → CallS 20 l a l.length cap false i (par mis l U i) := fun U i n hi hn hlen hU => at_mis i n rfl HN.out hi hn hlen hU
  have h400 := (nd.shape_yes (tree_parts ht).1).2.1
  have HALL := Lib.hid (show CallS 20 l a l.length cap false (l.length - 1) (ex mis l l.length (l.length - 1)) from
    hAt _ _ _ (by omega) rfl (fun q => by
      have h1 := un_len (enc := mis) ht l.length (l.length - 1) q (by omega) (by omega) hlast
      have h2 : sz l (l.length - 1) ≤ l.length - 1 + 1 := by unfold sz; omega
      omega) (all_nd ht way_mis HN.out hAt l.length (l.length - 1) (by omega) (by omega) hlast))
  have HEX := Lib.hid (show ∀ w1, nd.Lies w1.heap.size w1 a l → Calls Tryz.prog 18 #[.slice a l.length cap] w1 fun e w' => e = .returned (.bool true) ∧ Below w1.heap.size w1 w' from fun w1 h1 => (rt.spec_expr l a cap w1 HN.out HK.out HS.out h1).mono fun e w' h => by rw [HX.out] at h; exact h)
  have HPOS := Lib.hid (show posOk p.l p.d = true from hp)
  obtain ⟨k, hN⟩ : ∃ k, l.length = k + 1 := ⟨l.length - 1, by omega⟩
  have hkk : l.length - 1 = k := by omega
  obtain ⟨bl, ol, rfl, hbl, hnode⟩ := nd.lies_at HC.out (show k < l.length by omega)
  obtain ⟨ak, ck, h5, -⟩ := hnode k (by omega)
  obtain ⟨lt, hlt⟩ : ∃ lt, lt = l[k]'(by omega) := ⟨_, rfl⟩
  rw [← hlt] at h5
  have h16 : ¬ lt.k = 16 := by
    rw [hkk, getD_at (show k < l.length by omega), ← hlt] at hlast
    have := expr_range hlast
    omega
  obtain ⟨e16, e16'⟩ := rt.ne_facts h16
  have HKIND := Lib.hid (show ∀ w1, Below w.heap.size w w1 → w1.cell? ⟨bl, ol + k * 5, none⟩ = some (.int .i64 lt.k) from fun w1 hb => (h5.keep hb hbl).1)
  have HNE := Lib.hid hN
  rw [hkk] at HALL
  rw [hN] at HALL HEX hn ⊢
  have s1 : IntKind.i64.wrap ((k : Int) + 1 - 1) = (k : Int) := by rw [IntKind.wrap_i64]; omega
  have z1 : (0 : Int) ≤ (k : Int) := by omega
  have z2 : (k : Int) < (k : Int) + 1 := by omega
  have HP := Lib.hid hp
  have HZ := Lib.hid (show ∀ w1, Below (w.alloc (.cells #[.int .i64 p.l, .bool p.d, .bool p.i, .bool p.g, .bool p.s] 30)).heap.size (w.alloc (.cells #[.int .i64 p.l, .bool p.d, .bool p.i, .bool p.g, .bool p.s] 30)) w1 → w1.cell? ⟨w.heap.size, 0, none⟩ = some (.int .i64 p.l) ∧ w1.cell? ⟨w.heap.size, 1, none⟩ = some (.bool p.d) ∧ w1.cell? ⟨w.heap.size, 2, none⟩ = some (.bool p.i) ∧ w1.cell? ⟨w.heap.size, 3, none⟩ = some (.bool p.g) ∧ w1.cell? ⟨w.heap.size, 4, none⟩ = some (.bool p.s) from fun w1 hb => by
    have hb1 := (hb.block w.heap.size (by simp)).trans (heap_alloc_new w (.cells #[.int .i64 p.l, .bool p.d, .bool p.i, .bool p.g, .bool p.s] 30))
    exact ⟨by rw [cell_of_row _ _ 0 _ _ _ hb1]; rfl, by rw [cell_of_row _ _ 1 _ _ _ hb1]; rfl, by rw [cell_of_row _ _ 2 _ _ _ hb1]; rfl, by rw [cell_of_row _ _ 3 _ _ _ hb1]; rfl, by rw [cell_of_row _ _ 4 _ _ _ hb1]; rfl⟩)
  clear hx ht h0 hlast hN hkk hlt hnode h5 h16 h400 hAt hp
  go_enter Tryz.func6, Tryz.ntmps6
  go_wp2_with fail
  refine (HEX.out _ (HC.out.on HB0.out (Nat.le_refl _))).mono ?_
  rintro e w1 ⟨rfl, b1⟩
  have B1 := Lib.hid (HB0.out.trans (b1.mono HB0.out.size))
  obtain ⟨p0, p1, p2, p3, p4⟩ := HZ.out w1 b1
  have B01 := Lib.hid b1
  clear b1
  go_wp2_with fail
  refine (ps.spec_ok p.l p.d p.i p.g p.s _).mono ?_
  rw [HP.out]
  rintro e w2 ⟨rfl, b2⟩
  have B2 := Lib.hid (B1.out.trans (b2.mono B1.out.size))
  have HZ2 := Lib.hid (HZ.out _ (B01.out.trans (b2.mono B01.out.size)))
  clear b2 p0 p1 p2 p3 p4
  obtain ⟨q0, q1, q2, q3, q4⟩ := HZ2.out
  have kc := HKIND.out _ B2.out
  go_wp2_with fail
  refine (HALL.out p HPOS.out _ (HC.out.on B2.out (Nat.le_refl _))).mono ?_
  rintro e w4 ⟨v4, rfl, b4, o4⟩
  have B4 := Lib.hid (B2.out.trans (b4.mono B2.out.size))
  have O4 := Lib.hid (o4.up B2.out.size)
  clear b4 o4
  go_wp2
  go_ret
  refine ⟨v4, rfl, B4.out, ?_⟩
  rw [HE.out, HNE.out, Nat.add_sub_cancel]
  exact O4.out

set_option maxHeartbeats 1600000 in
theorem spec_FullTokens (l : List Nd) (a : Option Addr) (cap : Nat) (w : World) (hn : l.length ≤ 1048576) (hk : ∀ t ∈ l, t.kids.length ≤ 1048576) (hs : ∀ t ∈ l, t.s.size ≤ 1048576 ∧ t.t.size ≤ 1048576) (hc : nd.Lies w.heap.size w a l) :
    Calls Tryz.prog 15 #[.slice a l.length cap] w (Out (tw.ftoks l) w) := by
  have HC := Lib.hid hc
  have HN := Lib.hid hn
  have HK := Lib.hid hk
  have HS := Lib.hid hs
  have HB0 := Lib.hid (show Below w.heap.size w w from (Below.refl w.heap.size w))
  clear hc hk hs
  cases hx : rt.exprOk l
  · have HE := Lib.hid (show tw.ftoks l = [] by unfold tw.ftoks; rw [if_neg (by simp [hx])])
    have HX := Lib.hid hx
    go_enter Tryz.func15, Tryz.ntmps15
    go_wp2_with fail
    refine (rt.spec_expr l a cap _ HN.out HK.out HS.out (HC.out.on HB0.out (Nat.le_refl _))).mono ?_
    rw [HX.out]
    rintro e w1 ⟨rfl, b1⟩
    have B1 := Lib.hid (HB0.out.trans (b1.mono HB0.out.size))
    clear b1
    obtain ⟨E1, E2⟩ := emp w _ B1.out
    have HE1 := Lib.hid E1
    have HE2 := Lib.hid E2
    clear E1 E2
    go_wp2
    go_ret
    refine ⟨_, rfl, HE1.out, ?_⟩
    rw [HE.out]
    exact HE2.out
  have HE := Lib.hid (show tw.ftoks l = ex full l l.length (l.length - 1) top by unfold tw.ftoks; rw [if_pos hx])
  have HX := Lib.hid hx
  obtain ⟨ht, h0, hlast⟩ := tw.expr_parts hx
  have hAt : ∀ (U : Nat → Ps → List Tk) (i : Nat) (n : Nd), i < l.length → l.getD i default = n → (∀ q, (U i q).length ≤ 100000) → CallS 38 l a l.length cap true i (U i) → CallS 20 l a l.length cap true i (par full l U i) := fun U i n hi hn hlen hU => at_full i n rfl HN.out hi hn hlen hU
  have h400 := (nd.shape_yes (tree_parts ht).1).2.1
  have HALL := Lib.hid (show CallS 20 l a l.length cap true (l.length - 1) (ex full l l.length (l.length - 1)) from
    hAt _ _ _ (by omega) rfl (fun q => by
      have h1 := un_len (enc := full) ht l.length (l.length - 1) q (by omega) (by omega) hlast
      have h2 : sz l (l.length - 1) ≤ l.length - 1 + 1 := by unfold sz; omega
      omega) (all_nd ht way_full HN.out hAt l.length (l.length - 1) (by omega) (by omega) hlast))
  have HEX := Lib.hid (show ∀ w1, nd.Lies w1.heap.size w1 a l → Calls Tryz.prog 18 #[.slice a l.length cap] w1 fun e w' => e = .returned (.bool true) ∧ Below w1.heap.size w1 w' from fun w1 h1 => (rt.spec_expr l a cap w1 HN.out HK.out HS.out h1).mono fun e w' h => by rw [HX.out] at h; exact h)
  have HPOS := Lib.hid (show posOk top.l top.d = true from top_ok)
  obtain ⟨k, hN⟩ : ∃ k, l.length = k + 1 := ⟨l.length - 1, by omega⟩
  have hkk : l.length - 1 = k := by omega
  obtain ⟨bl, ol, rfl, hbl, hnode⟩ := nd.lies_at HC.out (show k < l.length by omega)
  obtain ⟨ak, ck, h5, -⟩ := hnode k (by omega)
  obtain ⟨lt, hlt⟩ : ∃ lt, lt = l[k]'(by omega) := ⟨_, rfl⟩
  rw [← hlt] at h5
  have h16 : ¬ lt.k = 16 := by
    rw [hkk, getD_at (show k < l.length by omega), ← hlt] at hlast
    have := expr_range hlast
    omega
  obtain ⟨e16, e16'⟩ := rt.ne_facts h16
  have HKIND := Lib.hid (show ∀ w1, Below w.heap.size w w1 → w1.cell? ⟨bl, ol + k * 5, none⟩ = some (.int .i64 lt.k) from fun w1 hb => (h5.keep hb hbl).1)
  have HNE := Lib.hid hN
  rw [hkk] at HALL
  rw [hN] at HALL HEX hn ⊢
  have s1 : IntKind.i64.wrap ((k : Int) + 1 - 1) = (k : Int) := by rw [IntKind.wrap_i64]; omega
  have z1 : (0 : Int) ≤ (k : Int) := by omega
  have z2 : (k : Int) < (k : Int) + 1 := by omega
  clear hx ht h0 hlast hN hkk hlt hnode h5 h16 h400 hAt
  go_enter Tryz.func15, Tryz.ntmps15
  go_wp2_with fail
  refine (HEX.out _ (HC.out.on HB0.out (Nat.le_refl _))).mono ?_
  rintro e w1 ⟨rfl, b1⟩
  have B1 := Lib.hid (HB0.out.trans (b1.mono HB0.out.size))
  have B2 := Lib.hid B1.out
  clear b1
  have kc := HKIND.out _ B2.out
  go_wp2_with fail
  refine (ps.spec_top _).mono ?_
  rintro e w2 ⟨rfl, b2⟩
  have B3 := Lib.hid (B2.out.trans (b2.mono B2.out.size))
  clear b2
  go_wp2_with fail
  refine (HALL.out top HPOS.out _ (HC.out.on B3.out (Nat.le_refl _))).mono ?_
  rintro e w4 ⟨v4, rfl, b4, o4⟩
  have B4 := Lib.hid (B3.out.trans (b4.mono B3.out.size))
  have O4 := Lib.hid (o4.up B3.out.size)
  clear b4 o4
  go_wp2
  go_ret
  refine ⟨v4, rfl, B4.out, ?_⟩
  rw [HE.out, HNE.out, Nat.add_sub_cancel]
  exact O4.out
end Go.Proofs.YtdikohegclooiaaGreatDoor.st
