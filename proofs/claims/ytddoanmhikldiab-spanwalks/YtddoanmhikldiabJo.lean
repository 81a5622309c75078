/-
  The contract of joined: a set with a span more. Conditions: the set is the caller's own; its numbers are code points; it is not too long.
-/
import Derived.Test.YtddoanmhikldiabRu
import Derived.Test.YtddoanmhikldiabGv
import Derived.Laws.OwnMore
import Derived.BigRegion
namespace Go.Proofs.Ytddoanmhikldiab
open Go.RowKit
theorem owns_slice {W : World} {b e size n : Nat} {v : Value} {xs : List Value} (h : W.ownsRow b e size v n xs) : ∃ a c, v = .slice a n c ∧ n ≤ c ∧ (0 < n → ∃ g, a = some ⟨g, 0, none⟩) := by
  obtain ⟨_, ⟨rfl, h0⟩ | ⟨g, cap, cur, rfl, _, _, h3, _⟩⟩ := h
  · exact ⟨none, 0, by rw [h0], by omega, fun h => by omega⟩
  · exact ⟨_, _, rfl, h3, fun _ => ⟨g, rfl⟩⟩
theorem owns_cell {W : World} {b e size n : Nat} {v : Value} {xs : List Value} (h : W.ownsRow b e size v n xs) {g cap : Nat} (hv : v = .slice (some ⟨g, 0, none⟩) n cap) (i : Nat) (u : Value) (hi : xs[i]? = some u) : W.cell? ⟨g, i, none⟩ = some u ∧ W.frozen? ⟨g, i, none⟩ = false := by
  obtain ⟨h1, ⟨h2, _⟩ | ⟨g', cap', cur, rfl, h3, h4, h5, h6, h7, h8⟩⟩ := h
  · rw [h2] at hv; cases hv
  · cases hv
    have hl : i < n * size := by rw [← h1]; exact (List.getElem?_eq_some_iff.1 hi).1
    rw [← h8, List.getElem?_take_of_lt hl, Array.getElem?_toList] at hi
    exact ⟨by simp [World.cell?, h4, hi], by simp [World.frozen?, h4]⟩
theorem celS_get (L : List Sn) (j : Nat) (h : j < L.length) : (celS L)[j * 2]? = some (.int .i32 (L.getD j (0, 0)).1) ∧ (celS L)[j * 2 + 1]? = some (.int .i32 (L.getD j (0, 0)).2) := by
  induction L generalizing j with
  | nil => simp at h
  | cons s L ih =>
    have e : celS (s :: L) = .int .i32 s.1 :: .int .i32 s.2 :: celS L := rfl
    rw [e]
    cases j with
    | zero => exact ⟨rfl, rfl⟩
    | succ j =>
      have := ih j (by simpa using h)
      rw [show (j + 1) * 2 = j * 2 + 1 + 1 by omega]
      simpa using this
theorem RdS.of_owns {w : World} {b e : Nat} {v : Value} {L : List Sn} (h : w.ownsRow b e 2 v L.length (celS L)) : RdS w v L := by
  obtain ⟨a, c, rfl, hc, hn⟩ := owns_slice h
  refine ⟨a, c, rfl, hc, fun hp => ?_⟩
  obtain ⟨g, rfl⟩ := hn hp
  refine ⟨g, 0, rfl, fun j hj => ?_⟩
  obtain ⟨h1, h2⟩ := celS_get L j hj
  rw [Nat.zero_add]
  exact ⟨(owns_cell h rfl _ _ h1).1, (owns_cell h rfl _ _ h2).1⟩
set_option maxRecDepth 100000 in
set_option maxHeartbeats 1000000 in
theorem joined_nil (B : Nat) (X : List Sn) (x y : Int) (v : Value) (w : World) (hX : X = []) (hB : B ≤ w.heap.size) (hO : Hid (w.ownsRow B 41 2 v 0 (celS X))) : Calls Try.prog 32 #[v, .agg #[.int .i32 x, .int .i32 y]] w fun e w' => ∃ v', e = .returned v' ∧ w'.ownsRow B 41 2 v' (joinL X (x, y)).length (celS (joinL X (x, y))) ∧ Below B w w' := by
  obtain ⟨i0, hi, hz0, hz1, hz2⟩ := info_parts info57
  have HJ : Hid (joinL X (x, y) = X ++ [(x, y)]) := by rw [Hid, hX]; rfl
  have LL : X.length = 0 := by rw [hX]; rfl
  clear hX
  obtain ⟨a, c, rfl, -, -⟩ := owns_slice hO.out
  go_enter Try.func32, Try.ntmps32
  go_wp2_with fail
  refine wp_region_vals (a1 := ?a1r2n1) (grown _) [.int .i64 (-1), .bool true, .bool true, undef, undef, undef, undef, undef, undef, undef, undef, undef, .bool true] 39 rfl (by kernel_rfl) (by kernel_rfl) (grown_start _) ⟨?o0r2n1, ?o1r2n1, ?o2r2n1, ?o3r2n1, ?o4r2n1, ?o5r2n1, ?o6r2n1, ?o7r2n1, ?o8r2n1, ?o9r2n1, ?o10r2n1, ?o11r2n1, ?o12r2n1, trivial⟩ ?har2n1 ?hdoner2n1
  case har2n1 => simp [putAll, Act.put]; exact rfl
  case o0r2n1 => exact ValOp.pure (grown_steady _ 0) [(5, .int .i64 (-1))] rfl (fun _ _ h2 => ⟨(h2 5 (by kernel_rfl)).trans rfl, trivial⟩) (by kernel_rfl) (fun _ _ _ _ _ => by kernel_rfl)
  case o1r2n1 => exact ValOp.pure (grown_steady _ 1) [(9, .int .i64 (-1))] rfl (fun _ h1 _ => ⟨h1 0 9 (by kernel_rfl), trivial⟩) (by kernel_rfl) (fun _ _ _ _ _ => run_bin (a := .int .i64 (-1)) (b := .int .i64 0) rfl rfl rfl (by kernel_rfl) (by simp [go_sem]))
  case o2r2n1 => exact ValOp.pure (grown_steady _ 2) [(10, .bool true)] rfl (fun _ h1 _ => ⟨h1 1 10 (by kernel_rfl), trivial⟩) (by kernel_rfl) (fun _ _ _ _ _ => by kernel_rfl)
  case o3r2n1 => exact ValOp.no (grown_steady _ 3) (.inl ⟨11, _, rfl, rfl, by kernel_rfl, rfl⟩) rfl
  case o4r2n1 => exact ValOp.no (grown_steady _ 4) (.inl ⟨11, _, rfl, rfl, by kernel_rfl, rfl⟩) rfl
  case o5r2n1 => exact ValOp.no (grown_steady _ 5) (.inl ⟨11, _, rfl, rfl, by kernel_rfl, rfl⟩) rfl
  case o6r2n1 => exact ValOp.no (grown_steady _ 6) (.inl ⟨11, _, rfl, rfl, by kernel_rfl, rfl⟩) rfl
  case o7r2n1 => exact ValOp.no (grown_steady _ 7) (.inl ⟨11, _, rfl, rfl, by kernel_rfl, rfl⟩) rfl
  case o8r2n1 => exact ValOp.no (grown_steady _ 8) (.inl ⟨11, _, rfl, rfl, by kernel_rfl, rfl⟩) rfl
  case o9r2n1 => exact ValOp.no (grown_steady _ 9) (.inl ⟨11, _, rfl, rfl, by kernel_rfl, rfl⟩) rfl
  case o10r2n1 => exact ValOp.no (grown_steady _ 10) (.inl ⟨11, _, rfl, rfl, by kernel_rfl, rfl⟩) rfl
  case o11r2n1 => exact ValOp.no (grown_steady _ 11) (.inl ⟨11, _, rfl, rfl, by kernel_rfl, rfl⟩) rfl
  case o12r2n1 => exact ValOp.pure (grown_steady _ 12) [(11, .bool true), (20, undef)] rfl (fun _ h1 _ => ⟨h1 2 11 (by kernel_rfl), h1 11 20 (by kernel_rfl), trivial⟩) (by kernel_rfl) (fun _ _ _ _ _ => by kernel_rfl)
  case hdoner2n1 =>
    intro w1 s1 hs1 hg1
    obtain ⟨q1, q2⟩ := box2_below hg1
    have hO1 : Hid (w1.ownsRow B 41 2 (.slice a 0 c) 0 (celS X)) := owns_below (hO.out.alloc _) hg1
    have B1 : Hid (Below B w w1) := (((Below.refl B w).alloc hB _).trans (Below.mono hg1 (by simp; omega)))
    have hcn : Hid _ := cells_new w1 #[.int .i32 x, .int .i32 y] 41
    have hw1 := B1.out.size
    clear hg1 hs1
    go_wp2_with (at_builtin; go_must (refine wpList_append_own _ rfl _ _ 22 rfl B 41 i0 _ 2 8 Try.underlying22 hi hz0 hz1 hz2 rfl (by decide) _ _ _ rfl (hO1.out.alloc _) ⟨_, 0, none⟩ 1 1 [.int .i32 x, .int .i32 y] rfl rfl hcn.out (by simp [Value.oneCell']) (by unfold maxLen; omega) (by omega) (by simp; omega) ?_))
    intro v' w2 hown' hgrow _
    have B2 : Below B w w2 := (B1.out.alloc (by omega) _).grown hgrow (by simp; omega) (fun j hj => (hO1.out.lt j hj).1)
    go_wp2
    go_ret
    exact ⟨_, rfl, by rw [HJ.out, List.length_append, celS_snoc, LL]; exact hown', B2⟩
set_option maxRecDepth 100000 in
set_option maxHeartbeats 1000000 in
theorem joined_app (B m g c : Nat) (X : List Sn) (x y t2 : Int) (w : World) (hX : X.length = m + 1) (hm : m < 1099511627776) (ht : t2 + 1 < x) (ht0 : 0 ≤ t2 ∧ t2 ≤ 1114111) (hJ : joinL X (x, y) = X ++ [(x, y)]) (hB : B ≤ w.heap.size) (hO : Hid (w.ownsRow B 41 2 (.slice (some ⟨g, 0, none⟩) (m + 1) c) (m + 1) (celS X))) (hT0 : Hid (w.cell? ⟨g, 0 + m * 2 + 1, none⟩ = some (.int .i32 t2))) : Calls Try.prog 32 #[.slice (some ⟨g, 0, none⟩) (m + 1) c, .agg #[.int .i32 x, .int .i32 y]] w fun e w' => ∃ v', e = .returned v' ∧ w'.ownsRow B 41 2 v' (joinL X (x, y)).length (celS (joinL X (x, y))) ∧ Below B w w' := by
  obtain ⟨i0, hi, hz0, hz1, hz2⟩ := info_parts info57
  have HJ : Hid _ := hJ
  have LL : Hid _ := hX
  have hT : Hid (∀ w1 : World, Below (w.alloc (.cells #[.int .i32 x, .int .i32 y] 41)).heap.size (w.alloc (.cells #[.int .i32 x, .int .i32 y] 41)) w1 → w1.cell? ⟨g, 0 + m * 2 + 1, none⟩ = some (.int .i32 t2)) := fun w1 hb => by
    have g1 := World.block_lt_of_cell? w _ hT0.out
    simp only at g1
    rw [hb.cell (p := ⟨g, 0 + m * 2 + 1, none⟩) (by simp; omega), ← hT0.out]
    exact World.cell?_of_block (Below.heap_alloc w _ g g1)
  have hm0 : ¬ (m : Int) < 0 := by omega
  have ht1 : IntKind.i32.wrap (t2 + 1) = t2 + 1 := IntWalk.i32_in _ (by omega)
  have hgt : decide (t2 + 1 < x) = true := decide_eq_true ht
  clear hX hJ hT0 ht
  go_enter Try.func32, Try.ntmps32
  go_wp2_with fail
  refine wp_region_vals (a1 := ?a1r2n2) (grown _) [.int .i64 (m : Int), .bool false, .bool false, .pointer (some ⟨w.heap.size, 0, none⟩), .int .i32 x, .slice (some ⟨g, 0, none⟩) (m + 1) (c), .int .i64 (m : Int), .pointer (some ⟨g, 0 + m * 2, none⟩), .pointer (some ⟨g, 0 + m * 2 + 1, none⟩), .int .i32 t2, .int .i32 (t2 + 1), .bool true, .bool true] 39 rfl (by kernel_rfl) (by kernel_rfl) (grown_start _) ⟨?o0r2n2, ?o1r2n2, ?o2r2n2, ?o3r2n2, ?o4r2n2, ?o5r2n2, ?o6r2n2, ?o7r2n2, ?o8r2n2, ?o9r2n2, ?o10r2n2, ?o11r2n2, ?o12r2n2, trivial⟩ ?har2n2 ?hdoner2n2
  case har2n2 => simp [putAll, Act.put]; exact rfl
  case o0r2n2 => exact ValOp.pure (grown_steady _ 0) [(5, .int .i64 (m : Int))] rfl (fun _ _ h2 => ⟨(h2 5 (by kernel_rfl)).trans rfl, trivial⟩) (by kernel_rfl) (fun _ _ _ _ _ => by kernel_rfl)
  case o1r2n2 => exact ValOp.pure (grown_steady _ 1) [(9, .int .i64 (m : Int))] rfl (fun _ h1 _ => ⟨h1 0 9 (by kernel_rfl), trivial⟩) (by kernel_rfl) (fun _ _ _ _ _ => run_bin (a := .int .i64 (m : Int)) (b := .int .i64 0) rfl rfl rfl (by kernel_rfl) (by simp [go_sem, hm0]))
  case o2r2n2 => exact ValOp.pure (grown_steady _ 2) [(10, .bool false)] rfl (fun _ h1 _ => ⟨h1 1 10 (by kernel_rfl), trivial⟩) (by kernel_rfl) (fun _ _ _ _ _ => by kernel_rfl)
  case o3r2n2 => exact ValOp.pure (grown_steady _ 3) [(3, .pointer (some ⟨w.heap.size, 0, none⟩))] (.inl ⟨11, _, rfl, rfl, by kernel_rfl, rfl⟩) (fun _ _ h2 => ⟨(h2 3 (by kernel_rfl)).trans rfl, trivial⟩) (by kernel_rfl) (fun _ _ _ _ _ => by kernel_rfl)
  case o4r2n2 => exact ValOp.pure (grown_steady _ 4) [(12, .pointer (some ⟨w.heap.size, 0, none⟩))] (.inl ⟨11, _, rfl, rfl, by kernel_rfl, rfl⟩) (fun _ h1 _ => ⟨h1 3 12 (by kernel_rfl), trivial⟩) (by kernel_rfl) (fun _ _ _ hg _ => run_read rfl rfl (run_l21 (box2_below hg).1))
  case o5r2n2 => exact ValOp.pure (grown_steady _ 5) [(0, .slice (some ⟨g, 0, none⟩) (m + 1) (c))] (.inl ⟨11, _, rfl, rfl, by kernel_rfl, rfl⟩) (fun _ _ h2 => ⟨(h2 0 (by kernel_rfl)).trans rfl, trivial⟩) (by kernel_rfl) (fun _ _ _ _ _ => by kernel_rfl)
  case o6r2n2 => exact ValOp.pure (grown_steady _ 6) [(5, .int .i64 (m : Int))] (.inl ⟨11, _, rfl, rfl, by kernel_rfl, rfl⟩) (fun _ _ h2 => ⟨(h2 5 (by kernel_rfl)).trans rfl, trivial⟩) (by kernel_rfl) (fun _ _ _ _ _ => by kernel_rfl)
  case o7r2n2 => exact ValOp.pure (grown_steady _ 7) [(14, .slice (some ⟨g, 0, none⟩) (m + 1) (c)), (15, .int .i64 (m : Int))] (.inl ⟨11, _, rfl, rfl, by kernel_rfl, rfl⟩) (fun _ h1 _ => ⟨h1 5 14 (by kernel_rfl), h1 6 15 (by kernel_rfl), trivial⟩) (by kernel_rfl) (fun _ _ _ hg _ => run_ia_22 rfl rfl rfl (Nat.lt_succ_self m))
  case o8r2n2 => exact ValOp.pure (grown_steady _ 8) [(16, .pointer (some ⟨g, 0 + m * 2, none⟩))] (.inl ⟨11, _, rfl, rfl, by kernel_rfl, rfl⟩) (fun _ h1 _ => ⟨h1 7 16 (by kernel_rfl), trivial⟩) (by kernel_rfl) (fun _ _ _ _ _ => by kernel_rfl)
  case o9r2n2 => exact ValOp.pure (grown_steady _ 9) [(17, .pointer (some ⟨g, 0 + m * 2 + 1, none⟩))] (.inl ⟨11, _, rfl, rfl, by kernel_rfl, rfl⟩) (fun _ h1 _ => ⟨h1 8 17 (by kernel_rfl), trivial⟩) (by kernel_rfl) (fun _ _ _ hg _ => run_read rfl rfl (run_l21 (hT.out _ hg)))
  case o10r2n2 => exact ValOp.pure (grown_steady _ 10) [(18, .int .i32 t2)] (.inl ⟨11, _, rfl, rfl, by kernel_rfl, rfl⟩) (fun _ h1 _ => ⟨h1 9 18 (by kernel_rfl), trivial⟩) (by kernel_rfl) (fun _ _ _ _ _ => run_bin (a := .int .i32 t2) (b := .int .i32 1) rfl rfl rfl (by kernel_rfl) (by simp [go_sem, ht1]))
  case o11r2n2 => exact ValOp.pure (grown_steady _ 11) [(13, .int .i32 x), (19, .int .i32 (t2 + 1))] (.inl ⟨11, _, rfl, rfl, by kernel_rfl, rfl⟩) (fun _ h1 _ => ⟨h1 4 13 (by kernel_rfl), h1 10 19 (by kernel_rfl), trivial⟩) (by kernel_rfl) (fun _ _ _ _ _ => run_bin (a := .int .i32 x) (b := .int .i32 (t2 + 1)) rfl rfl rfl (by kernel_rfl) (by simp [go_sem, hgt]))
  case o12r2n2 => exact ValOp.pure (grown_steady _ 12) [(11, .bool false), (20, .bool true)] rfl (fun _ h1 _ => ⟨h1 2 11 (by kernel_rfl), h1 11 20 (by kernel_rfl), trivial⟩) (by kernel_rfl) (fun _ _ _ _ _ => by kernel_rfl)
  case hdoner2n2 =>
    intro w1 s1 hs1 hg1
    obtain ⟨q1, q2⟩ := box2_below hg1
    have hO1 : Hid (w1.ownsRow B 41 2 (.slice (some ⟨g, 0, none⟩) (m + 1) c) (m + 1) (celS X)) := owns_below (hO.out.alloc _) hg1
    have B1 : Hid (Below B w w1) := (((Below.refl B w).alloc hB _).trans (Below.mono hg1 (by simp; omega)))
    have hcn : Hid _ := cells_new w1 #[.int .i32 x, .int .i32 y] 41
    have hw1 := B1.out.size
    clear hg1 hs1
    go_wp2_with (at_builtin; go_must (refine wpList_append_own _ rfl _ _ 22 rfl B 41 i0 _ 2 8 Try.underlying22 hi hz0 hz1 hz2 rfl (by decide) _ _ _ rfl (hO1.out.alloc _) ⟨_, 0, none⟩ 1 1 [.int .i32 x, .int .i32 y] rfl rfl hcn.out (by simp [Value.oneCell']) (by unfold maxLen; omega) (by omega) (by simp; omega) ?_))
    intro v' w2 hown' hgrow _
    have B2 : Below B w w2 := (B1.out.alloc (by omega) _).grown hgrow (by simp; omega) (fun j hj => (hO1.out.lt j hj).1)
    go_wp2
    go_ret
    exact ⟨_, rfl, by rw [HJ.out, List.length_append, celS_snoc, LL.out]; exact hown', B2⟩
theorem celS_set (Y : List Sn) (t1 t2 z : Int) : (celS (Y ++ [(t1, t2)])).set (Y.length * 2 + 1) (.int .i32 z) = celS (Y ++ [(t1, z)]) := by
  rw [celS_snoc, celS_snoc, List.set_append_right _ _ (by rw [celS_len]; omega), celS_len, show Y.length * 2 + 1 - Y.length * 2 = 1 by omega]
  rfl
set_option maxRecDepth 100000 in
set_option maxHeartbeats 1000000 in
theorem joined_set (B m g c : Nat) (X X' : List Sn) (x y t2 : Int) (w : World) (hX : X'.length = m + 1) (hm : m < 1099511627776) (ht : ¬ t2 + 1 < x) (ht0 : 0 ≤ t2 ∧ t2 ≤ 1114111) (hJ : joinL X (x, y) = X') (hC : (celS X).set (m * 2 + 1) (.int .i32 (max t2 y)) = celS X') (hB : B ≤ w.heap.size) (hO : Hid (w.ownsRow B 41 2 (.slice (some ⟨g, 0, none⟩) (m + 1) c) (m + 1) (celS X))) (hT0 : Hid (w.cell? ⟨g, 0 + m * 2 + 1, none⟩ = some (.int .i32 t2))) : Calls Try.prog 32 #[.slice (some ⟨g, 0, none⟩) (m + 1) c, .agg #[.int .i32 x, .int .i32 y]] w fun e w' => ∃ v', e = .returned v' ∧ w'.ownsRow B 41 2 v' (joinL X (x, y)).length (celS (joinL X (x, y))) ∧ Below B w w' := by
  have HJ : Hid _ := hJ
  have LL : Hid _ := hX
  have HC : Hid _ := hC
  have hT : Hid (∀ w1 : World, Below (w.alloc (.cells #[.int .i32 x, .int .i32 y] 41)).heap.size (w.alloc (.cells #[.int .i32 x, .int .i32 y] 41)) w1 → w1.cell? ⟨g, 0 + m * 2 + 1, none⟩ = some (.int .i32 t2)) := fun w1 hb => by
    have g1 := World.block_lt_of_cell? w _ hT0.out
    simp only at g1
    rw [hb.cell (p := ⟨g, 0 + m * 2 + 1, none⟩) (by simp; omega), ← hT0.out]
    exact World.cell?_of_block (Below.heap_alloc w _ g g1)
  have hm0 : ¬ (m : Int) < 0 := by omega
  have ht1 : IntKind.i32.wrap (t2 + 1) = t2 + 1 := IntWalk.i32_in _ (by omega)
  have hgt : decide (t2 + 1 < x) = false := decide_eq_false ht
  clear hX hJ hT0 ht hC
  go_enter Try.func32, Try.ntmps32
  go_wp2_with fail
  refine wp_region_vals (a1 := ?a1r2n3) (grown _) [.int .i64 (m : Int), .bool false, .bool false, .pointer (some ⟨w.heap.size, 0, none⟩), .int .i32 x, .slice (some ⟨g, 0, none⟩) (m + 1) (c), .int .i64 (m : Int), .pointer (some ⟨g, 0 + m * 2, none⟩), .pointer (some ⟨g, 0 + m * 2 + 1, none⟩), .int .i32 t2, .int .i32 (t2 + 1), .bool false, .bool false] 39 rfl (by kernel_rfl) (by kernel_rfl) (grown_start _) ⟨?o0r2n3, ?o1r2n3, ?o2r2n3, ?o3r2n3, ?o4r2n3, ?o5r2n3, ?o6r2n3, ?o7r2n3, ?o8r2n3, ?o9r2n3, ?o10r2n3, ?o11r2n3, ?o12r2n3, trivial⟩ ?har2n3 ?hdoner2n3
  case har2n3 => simp [putAll, Act.put]; exact rfl
  case o0r2n3 => exact ValOp.pure (grown_steady _ 0) [(5, .int .i64 (m : Int))] rfl (fun _ _ h2 => ⟨(h2 5 (by kernel_rfl)).trans rfl, trivial⟩) (by kernel_rfl) (fun _ _ _ _ _ => by kernel_rfl)
  case o1r2n3 => exact ValOp.pure (grown_steady _ 1) [(9, .int .i64 (m : Int))] rfl (fun _ h1 _ => ⟨h1 0 9 (by kernel_rfl), trivial⟩) (by kernel_rfl) (fun _ _ _ _ _ => run_bin (a := .int .i64 (m : Int)) (b := .int .i64 0) rfl rfl rfl (by kernel_rfl) (by simp [go_sem, hm0]))
  case o2r2n3 => exact ValOp.pure (grown_steady _ 2) [(10, .bool false)] rfl (fun _ h1 _ => ⟨h1 1 10 (by kernel_rfl), trivial⟩) (by kernel_rfl) (fun _ _ _ _ _ => by kernel_rfl)
  case o3r2n3 => exact ValOp.pure (grown_steady _ 3) [(3, .pointer (some ⟨w.heap.size, 0, none⟩))] (.inl ⟨11, _, rfl, rfl, by kernel_rfl, rfl⟩) (fun _ _ h2 => ⟨(h2 3 (by kernel_rfl)).trans rfl, trivial⟩) (by kernel_rfl) (fun _ _ _ _ _ => by kernel_rfl)
  case o4r2n3 => exact ValOp.pure (grown_steady _ 4) [(12, .pointer (some ⟨w.heap.size, 0, none⟩))] (.inl ⟨11, _, rfl, rfl, by kernel_rfl, rfl⟩) (fun _ h1 _ => ⟨h1 3 12 (by kernel_rfl), trivial⟩) (by kernel_rfl) (fun _ _ _ hg _ => run_read rfl rfl (run_l21 (box2_below hg).1))
  case o5r2n3 => exact ValOp.pure (grown_steady _ 5) [(0, .slice (some ⟨g, 0, none⟩) (m + 1) (c))] (.inl ⟨11, _, rfl, rfl, by kernel_rfl, rfl⟩) (fun _ _ h2 => ⟨(h2 0 (by kernel_rfl)).trans rfl, trivial⟩) (by kernel_rfl) (fun _ _ _ _ _ => by kernel_rfl)
  case o6r2n3 => exact ValOp.pure (grown_steady _ 6) [(5, .int .i64 (m : Int))] (.inl ⟨11, _, rfl, rfl, by kernel_rfl, rfl⟩) (fun _ _ h2 => ⟨(h2 5 (by kernel_rfl)).trans rfl, trivial⟩) (by kernel_rfl) (fun _ _ _ _ _ => by kernel_rfl)
  case o7r2n3 => exact ValOp.pure (grown_steady _ 7) [(14, .slice (some ⟨g, 0, none⟩) (m + 1) (c)), (15, .int .i64 (m : Int))] (.inl ⟨11, _, rfl, rfl, by kernel_rfl, rfl⟩) (fun _ h1 _ => ⟨h1 5 14 (by kernel_rfl), h1 6 15 (by kernel_rfl), trivial⟩) (by kernel_rfl) (fun _ _ _ hg _ => run_ia_22 rfl rfl rfl (Nat.lt_succ_self m))
  case o8r2n3 => exact ValOp.pure (grown_steady _ 8) [(16, .pointer (some ⟨g, 0 + m * 2, none⟩))] (.inl ⟨11, _, rfl, rfl, by kernel_rfl, rfl⟩) (fun _ h1 _ => ⟨h1 7 16 (by kernel_rfl), trivial⟩) (by kernel_rfl) (fun _ _ _ _ _ => by kernel_rfl)
  case o9r2n3 => exact ValOp.pure (grown_steady _ 9) [(17, .pointer (some ⟨g, 0 + m * 2 + 1, none⟩))] (.inl ⟨11, _, rfl, rfl, by kernel_rfl, rfl⟩) (fun _ h1 _ => ⟨h1 8 17 (by kernel_rfl), trivial⟩) (by kernel_rfl) (fun _ _ _ hg _ => run_read rfl rfl (run_l21 (hT.out _ hg)))
  case o10r2n3 => exact ValOp.pure (grown_steady _ 10) [(18, .int .i32 t2)] (.inl ⟨11, _, rfl, rfl, by kernel_rfl, rfl⟩) (fun _ h1 _ => ⟨h1 9 18 (by kernel_rfl), trivial⟩) (by kernel_rfl) (fun _ _ _ _ _ => run_bin (a := .int .i32 t2) (b := .int .i32 1) rfl rfl rfl (by kernel_rfl) (by simp [go_sem, ht1]))
  case o11r2n3 => exact ValOp.pure (grown_steady _ 11) [(13, .int .i32 x), (19, .int .i32 (t2 + 1))] (.inl ⟨11, _, rfl, rfl, by kernel_rfl, rfl⟩) (fun _ h1 _ => ⟨h1 4 13 (by kernel_rfl), h1 10 19 (by kernel_rfl), trivial⟩) (by kernel_rfl) (fun _ _ _ _ _ => run_bin (a := .int .i32 x) (b := .int .i32 (t2 + 1)) rfl rfl rfl (by kernel_rfl) (by simp [go_sem, hgt]))
  case o12r2n3 => exact ValOp.pure (grown_steady _ 12) [(11, .bool false), (20, .bool false)] rfl (fun _ h1 _ => ⟨h1 2 11 (by kernel_rfl), h1 11 20 (by kernel_rfl), trivial⟩) (by kernel_rfl) (fun _ _ _ _ _ => by kernel_rfl)
  case hdoner2n3 =>
    intro w1 s1 hs1 hg1
    obtain ⟨q1, q2⟩ := box2_below hg1
    have hO1 : Hid (w1.ownsRow B 41 2 (.slice (some ⟨g, 0, none⟩) (m + 1) c) (m + 1) (celS X)) := owns_below (hO.out.alloc _) hg1
    have B1 : Hid (Below B w w1) := (((Below.refl B w).alloc hB _).trans (Below.mono hg1 (by simp; omega)))
    have q3 : w1.cell? ⟨g, m * 2 + 1, none⟩ = some (.int .i32 t2) := by have := hT.out w1 hg1; rwa [Nat.zero_add] at this
    have hz : m * 2 + 1 < (celS X).length := by rw [hO1.out.1]; omega
    obtain ⟨u, hu⟩ : ∃ u, (celS X)[m * 2 + 1]? = some u := ⟨_, List.getElem?_eq_getElem hz⟩
    have q4 := (owns_cell hO1.out rfl _ _ hu).2
    have hBg : Hid (B ≤ g) := (hO1.out.lt g rfl).1
    clear hg1 hs1 hu
    have hmx : Hid ((if t2 < y then y else t2) = max t2 y) := by rw [Hid]; split <;> omega
    have O2 := hO1.out.stored (m * 2 + 1) (.int .i32 (if t2 < y then y else t2))
    have O3 : Hid ((w1.setCell ⟨g, m * 2 + 1, none⟩ (.int .i32 (if t2 < y then y else t2))).drew.ownsRow B 41 2 (.slice (some ⟨g, 0, none⟩) (m + 1) c) (m + 1) ((celS X).set (m * 2 + 1) (.int .i32 (if t2 < y then y else t2)))) := O2.1
    have B2 : Hid (Below B w (w1.setCell ⟨g, m * 2 + 1, none⟩ (.int .i32 (if t2 < y then y else t2))).drew) := (B1.out.setCell (p := ⟨g, m * 2 + 1, none⟩) hBg.out _).drew
    clear O2
    go_wp2_with fail
    go_region
    generalize (if t2 < y then y else t2) = z at hmx O3 B2 ⊢
    go_wp2
    go_ret
    exact ⟨_, rfl, by rw [HJ.out, LL.out, ← HC.out, ← hmx.out]; exact O3.out, B2.out⟩
theorem joined_any (B : Nat) (X : List Sn) (s : Sn) (v : Value) (w : World) (hB : B ≤ w.heap.size) (hO : w.ownsRow B 41 2 v X.length (celS X)) (hX : ∀ t ∈ X, 0 ≤ t.2 ∧ t.2 ≤ 1114111) (hl : X.length < 1099511627776) : Calls Try.prog 32 #[v, .agg #[.int .i32 s.1, .int .i32 s.2]] w fun e w' => ∃ v', e = .returned v' ∧ w'.ownsRow B 41 2 v' (joinL X s).length (celS (joinL X s)) ∧ Below B w w' := by
  obtain ⟨x, y⟩ := s
  rcases snoc_or X with rfl | ⟨Y, ⟨t1, t2⟩, rfl⟩
  · exact joined_nil B [] x y v w rfl hB hO
  · have hlen : (Y ++ [(t1, t2)]).length = Y.length + 1 := by simp
    have hO2 := hO
    rw [hlen] at hO hl
    obtain ⟨a, c, rfl, hc, hn⟩ := owns_slice hO
    obtain ⟨g, rfl⟩ := hn (by omega)
    have ht0 := hX (t1, t2) (by simp)
    have hcell := (owns_cell hO rfl (Y.length * 2 + 1) (.int .i32 t2) (by rw [celS_snoc, List.getElem?_append_right (by rw [celS_len]; omega), celS_len, show Y.length * 2 + 1 - Y.length * 2 = 1 by omega]; rfl)).1
    have hT0 : Hid (w.cell? ⟨g, 0 + Y.length * 2 + 1, none⟩ = some (.int .i32 t2)) := by rw [Hid, Nat.zero_add]; exact hcell
    by_cases ht : t2 + 1 < x
    · exact joined_app B Y.length g c _ x y t2 w hlen (by omega) ht ht0 (by rw [join_snoc, if_pos ht]) hB hO hT0
    · exact joined_set B Y.length g c _ (Y ++ [(t1, max t2 y)]) x y t2 w (by simp) (by omega) ht ht0 (by rw [join_snoc, if_neg ht]) (celS_set Y t1 t2 (max t2 y)) hB hO hT0
end Go.Proofs.Ytddoanmhikldiab
