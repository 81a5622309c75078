/-
  The document's add and Runs. Conditions: the rows may be; the list is no longer than 65536.
-/
import Derived.Test.YtookbgmolggohaaPl
import Derived.Laws.OwnMore
namespace Go.Proofs.Ytookbgmolggohaa
open Go.RowKit
/-- A stretch more, joined with the last one, if it has the same number. -/
def addR : List Rw → Rw → List Rw
  | [], x => [x]
  | [y], x => if y.2.2 = x.2.2 then [(y.1, x.2.1, y.2.2)] else [y, x]
  | y :: z :: L, x => y :: addR (z :: L) x
theorem addR_snoc : ∀ (L : List Rw) (y x : Rw), addR (L ++ [y]) x = if y.2.2 = x.2.2 then L ++ [(y.1, x.2.1, y.2.2)] else L ++ [y, x]
  | [], y, x => rfl
  | [a], y, x => by
    show a :: addR [y] x = _
    unfold addR
    split <;> rfl
  | a :: b :: L, y, x => by
    show a :: addR (b :: L ++ [y]) x = _
    rw [addR_snoc (b :: L) y x]
    split <;> rfl
theorem snoc_or (X : List Rw) : X = [] ∨ ∃ Y s, X = Y ++ [s] := by
  rcases List.eq_nil_or_concat X with h | ⟨Y, s, h⟩
  · exact .inl h
  · exact .inr ⟨Y, s, by simpa using h⟩
theorem run_l33 {w : World} {g o : Nat} {x y z : Int} (h : w.cell? ⟨g, o, none⟩ = some (.int .i64 x)) (h2 : w.cell? ⟨g, o + 1, none⟩ = some (.int .i64 y)) (h3 : w.cell? ⟨g, o + 2, none⟩ = some (.int .i64 z)) : (loadVar 33 ⟨g, o, none⟩).run Try.prog w = .ok (.agg #[.int .i64 x, .int .i64 y, .int .i64 z]) w := by
  simp [loadVar, go_sem, run_underlying Try.underlying33, isAgg, h, h2, h3, loadCells, loadCellsFrom, Go.WideShapes.add_plain]
set_option maxRecDepth 100000 in
set_option maxHeartbeats 1000000 in
theorem add_nil (B : Nat) (x y z : Int) (v : Value) (w : World) (hB : B ≤ w.heap.size) (hO : Hid (w.ownsRow B 33 3 v 0 [])) : Calls Try.prog 33 #[v, .agg #[.int .i64 x, .int .i64 y, .int .i64 z]] w fun e w' => ∃ v', e = .returned v' ∧ w'.ownsRow B 33 3 v' 1 (cel3 .i64 [(x, y, z)]) ∧ Below B w w' ∧ Far (fun k => v.ownBlock = some k) w w' ∧ (v'.ownBlock = v.ownBlock ∨ ∃ k, v'.ownBlock = some k ∧ w.heap.size ≤ k) := by
  obtain ⟨i0, hi, hz0, hz1, hz2⟩ := info_parts info33
  obtain ⟨a, c, rfl, -, -⟩ := owns_slice hO.out
  go_enter Try.func33, Try.ntmps33
  go_wp2_with fail
  obtain ⟨q1, q2, q3⟩ := box3 w (.int .i64 x) (.int .i64 y) (.int .i64 z) 33
  have O1 : Hid (∀ n, ((w.alloc (.cells #[.int .i64 x, .int .i64 y, .int .i64 z] 33)).drewN n).ownsRow B 33 3 (.slice a 0 c) 0 []) := fun _ => hO.out.alloc _
  have B1 : Hid (∀ n, Below B w ((w.alloc (.cells #[.int .i64 x, .int .i64 y, .int .i64 z] 33)).drewN n)) := fun n => below_drew n ((Below.refl _ _).alloc hB _)
  have hcn : Hid (∀ n, ∀ j u, #[Value.int .i64 x, .int .i64 y, .int .i64 z].toList[j]? = some u → ((((w.alloc (.cells #[.int .i64 x, .int .i64 y, .int .i64 z] 33)).drewN n).alloc (.cells #[.int .i64 x, .int .i64 y, .int .i64 z] 33)).cell? ((⟨(w.alloc (.cells #[.int .i64 x, .int .i64 y, .int .i64 z] 33)).heap.size, 0, none⟩ : Addr).add j) = some u)) := fun n => cells_new ((w.alloc (.cells #[.int .i64 x, .int .i64 y, .int .i64 z] 33)).drewN n) #[.int .i64 x, .int .i64 y, .int .i64 z] 33
  go_quiet (fail)
  go_wp2_with (at_builtin; refine wpList_append_own_at _ rfl _ _ 25 rfl B 33 i0 _ 3 24 Try.underlying25 hi hz0 hz1 hz2 rfl (by decide) _ _ _ rfl ((O1.out _).alloc _) ⟨_, 0, none⟩ 1 1 [.int .i64 x, .int .i64 y, .int .i64 z] rfl rfl ?h1 ?h2 ?h3 ?h4 ?h5 ?h6)
  case h2 => simp [Value.oneCell']
  case h3 => unfold maxLen; omega
  case h5 => omega
  case h6 =>
    intro v' w' hown' hgrow _ hloc
    have F2 : Hid (Far (fun k => (Value.slice a 0 c).ownBlock = some k) w w') := (((Far.refl _ _).below ((Below.refl _ w).alloc (Nat.le_refl _) _)).below (below_drew nq (Below.refl _ _))).below ((Below.refl _ _).alloc (Nat.le_refl _) _) |>.grown hgrow (fun k hk => hk)
    have hloc' : Hid (v'.ownBlock = (Value.slice a 0 c).ownBlock ∨ ∃ k, v'.ownBlock = some k ∧ w.heap.size ≤ k) := hloc.imp id (fun h => ⟨_, h, by omega⟩)
    clear hloc
    have B2 : Hid (Below B w w') := ((B1.out nq).alloc (by have := (B1.out nq).size; omega) _).grown hgrow (by simp; omega) (fun j hj => (hO.out.lt j hj).1)
    go_wp2
    go_ret
    exact ⟨_, rfl, hown', B2.out, F2.out, hloc'.out⟩
set_option maxRecDepth 100000 in
set_option maxHeartbeats 1000000 in
theorem add_app (B m g c : Nat) (X : List Rw) (t3 x y z : Int) (w : World) (hB : B ≤ w.heap.size) (hm : m < 9000000) (ht : (t3 == z) = false) (hO : Hid (w.ownsRow B 33 3 (.slice (some ⟨g, 0, none⟩) (m + 1) c) (m + 1) (cel3 .i64 X))) (hT0 : w.cell? ⟨g, m * 3 + 2, none⟩ = some (.int .i64 t3)) : Calls Try.prog 33 #[.slice (some ⟨g, 0, none⟩) (m + 1) c, .agg #[.int .i64 x, .int .i64 y, .int .i64 z]] w fun e w' => ∃ v', e = .returned v' ∧ w'.ownsRow B 33 3 v' (m + 1 + 1) (cel3 .i64 (X ++ [(x, y, z)])) ∧ Below B w w' ∧ Far (fun k => (Value.slice (some ⟨g, 0, none⟩) (m + 1) c).ownBlock = some k) w w' ∧ (v'.ownBlock = (Value.slice (some ⟨g, 0, none⟩) (m + 1) c).ownBlock ∨ ∃ k, v'.ownBlock = some k ∧ w.heap.size ≤ k) := by
  obtain ⟨i0, hi, hz0, hz1, hz2⟩ := info_parts info33
  have hT1 : (w.alloc (.cells #[.int .i64 x, .int .i64 y, .int .i64 z] 33)).cell? ⟨g, m * 3 + 2, none⟩ = some (.int .i64 t3) := by
    have g2 := World.block_lt_of_cell? w _ hT0
    rw [World.cell?_of_block (w := w) (Go.RowKit.Below.heap_alloc w _ g (by simpa using g2))]
    exact hT0
  have wm : IntKind.i64.wrap ((m : Int) + 1 - 1) = (m : Int) := by rw [IntWalk.i64_in _ (by omega)]; omega
  have hbm : ¬ m + 1 ≤ m := by omega
  go_enter Try.func33, Try.ntmps33
  go_wp2_with fail
  obtain ⟨q1, q2, q3⟩ := box3 w (.int .i64 x) (.int .i64 y) (.int .i64 z) 33
  have O1 : Hid (∀ n, ((w.alloc (.cells #[.int .i64 x, .int .i64 y, .int .i64 z] 33)).drewN n).ownsRow B 33 3 (.slice (some ⟨g, 0, none⟩) (m + 1) c) (m + 1) (cel3 .i64 X)) := fun _ => hO.out.alloc _
  have B1 : Hid (∀ n, Below B w ((w.alloc (.cells #[.int .i64 x, .int .i64 y, .int .i64 z] 33)).drewN n)) := fun n => below_drew n ((Below.refl _ _).alloc hB _)
  have hcn : Hid (∀ n, ∀ j u, #[Value.int .i64 x, .int .i64 y, .int .i64 z].toList[j]? = some u → ((((w.alloc (.cells #[.int .i64 x, .int .i64 y, .int .i64 z] 33)).drewN n).alloc (.cells #[.int .i64 x, .int .i64 y, .int .i64 z] 33)).cell? ((⟨(w.alloc (.cells #[.int .i64 x, .int .i64 y, .int .i64 z] 33)).heap.size, 0, none⟩ : Addr).add j) = some u)) := fun n => cells_new ((w.alloc (.cells #[.int .i64 x, .int .i64 y, .int .i64 z] 33)).drewN n) #[.int .i64 x, .int .i64 y, .int .i64 z] 33
  go_quiet (fail)
  go_wp2_with (at_builtin; refine wpList_append_own_at _ rfl _ _ 25 rfl B 33 i0 _ 3 24 Try.underlying25 hi hz0 hz1 hz2 rfl (by decide) _ _ _ rfl ((O1.out _).alloc _) ⟨_, 0, none⟩ 1 1 [.int .i64 x, .int .i64 y, .int .i64 z] rfl rfl ?h1 ?h2 ?h3 ?h4 ?h5 ?h6)
  case h2 => simp [Value.oneCell']
  case h4 => omega
  case h3 => unfold maxLen; omega
  case h5 => omega
  case h6 =>
    intro v' w' hown' hgrow _ hloc
    have F2 : Hid (Far (fun k => (Value.slice (some ⟨g, 0, none⟩) (m + 1) c).ownBlock = some k) w w') := (((Far.refl _ _).below ((Below.refl _ w).alloc (Nat.le_refl _) _)).below (below_drew nq (Below.refl _ _))).below ((Below.refl _ _).alloc (Nat.le_refl _) _) |>.grown hgrow (fun k hk => hk)
    have hloc' : Hid (v'.ownBlock = (Value.slice (some ⟨g, 0, none⟩) (m + 1) c).ownBlock ∨ ∃ k, v'.ownBlock = some k ∧ w.heap.size ≤ k) := hloc.imp id (fun h => ⟨_, h, by omega⟩)
    clear hloc
    have B2 : Hid (Below B w w') := ((B1.out nq).alloc (by have := (B1.out nq).size; omega) _).grown hgrow (by simp; omega) (fun j hj => (hO.out.lt j hj).1)
    go_wp2
    go_ret
    exact ⟨_, rfl, by rw [cel3_snoc]; exact hown', B2.out, F2.out, hloc'.out⟩
set_option maxRecDepth 100000 in
set_option maxHeartbeats 1000000 in
theorem add_join (B m g c : Nat) (X X' : List Rw) (t2 t3 x y z : Int) (w : World) (hB : B ≤ w.heap.size) (hm : m < 9000000) (ht : (t3 == z) = true) (hO : Hid (w.ownsRow B 33 3 (.slice (some ⟨g, 0, none⟩) (m + 1) c) (m + 1) (cel3 .i64 X))) (hT0 : w.cell? ⟨g, m * 3 + 2, none⟩ = some (.int .i64 t3)) (hT2 : w.cell? ⟨g, m * 3 + 1, none⟩ = some (.int .i64 t2)) (hX : (cel3 .i64 X).set (m * 3 + 1) (.int .i64 y) = cel3 .i64 X') : Calls Try.prog 33 #[.slice (some ⟨g, 0, none⟩) (m + 1) c, .agg #[.int .i64 x, .int .i64 y, .int .i64 z]] w fun e w' => ∃ v', e = .returned v' ∧ w'.ownsRow B 33 3 v' (m + 1) (cel3 .i64 X') ∧ Below B w w' ∧ Far (fun k => (Value.slice (some ⟨g, 0, none⟩) (m + 1) c).ownBlock = some k) w w' ∧ (v'.ownBlock = (Value.slice (some ⟨g, 0, none⟩) (m + 1) c).ownBlock ∨ ∃ k, v'.ownBlock = some k ∧ w.heap.size ≤ k) := by
  have g2 := World.block_lt_of_cell? w _ hT0
  simp only at g2
  have hT1 : (w.alloc (.cells #[.int .i64 x, .int .i64 y, .int .i64 z] 33)).cell? ⟨g, m * 3 + 2, none⟩ = some (.int .i64 t3) := by
    rw [World.cell?_of_block (w := w) (Go.RowKit.Below.heap_alloc w _ g g2)]
    exact hT0
  have hT3 : (w.alloc (.cells #[.int .i64 x, .int .i64 y, .int .i64 z] 33)).cell? ⟨g, m * 3 + 1, none⟩ = some (.int .i64 t2) := by
    rw [World.cell?_of_block (w := w) (Go.RowKit.Below.heap_alloc w _ g g2)]
    exact hT2
  have HX : Hid ((cel3 .i64 X).set (m * 3 + 1) (.int .i64 y) = cel3 .i64 X') := hX
  have hBg : Hid (B ≤ g) := (hO.out.lt g rfl).1
  have wm : IntKind.i64.wrap ((m : Int) + 1 - 1) = (m : Int) := by rw [IntWalk.i64_in _ (by omega)]; omega
  have hbm : ¬ m + 1 ≤ m := by omega
  have hfz : (w.alloc (.cells #[.int .i64 x, .int .i64 y, .int .i64 z] 33)).frozen? ⟨g, m * 3 + 1, none⟩ = false := by
    rw [World.frozen?_of_block (w := w) (Go.RowKit.Below.heap_alloc w _ g g2)]
    obtain ⟨_, ⟨h, _⟩ | ⟨g', cap, cur, he, _, hc, _⟩⟩ := hO.out
    · cases h
    · cases he
      simp [World.frozen?, hc]
  clear hX hT0 hT2
  go_enter Try.func33, Try.ntmps33
  go_wp2_with fail
  obtain ⟨q1, q2, q3⟩ := box3 w (.int .i64 x) (.int .i64 y) (.int .i64 z) 33
  have O1 : Hid (∀ n, ((w.alloc (.cells #[.int .i64 x, .int .i64 y, .int .i64 z] 33)).drewN n).ownsRow B 33 3 (.slice (some ⟨g, 0, none⟩) (m + 1) c) (m + 1) (cel3 .i64 X)) := fun _ => hO.out.alloc _
  have B1 : Hid (∀ n, Below B w ((w.alloc (.cells #[.int .i64 x, .int .i64 y, .int .i64 z] 33)).drewN n)) := fun n => below_drew n ((Below.refl _ _).alloc hB _)
  go_quiet (fail)
  go_wp2
  go_ret
  exact ⟨_, rfl, by rw [← HX.out]; exact ((O1.out nq).stored (m * 3 + 1) (.int .i64 y)).1, (B1.out nq).setCell (p := ⟨g, m * 3 + 1, none⟩) hBg.out _, (((Far.refl _ _).below ((Below.refl _ w).alloc (Nat.le_refl _) _)).below (below_drew nq (Below.refl _ _))).set rfl, .inl rfl⟩
theorem cel3_set (Y : List Rw) (t1 t2 t3 z : Int) : (cel3 .i64 (Y ++ [(t1, t2, t3)])).set (Y.length * 3 + 1) (.int .i64 z) = cel3 .i64 (Y ++ [(t1, z, t3)]) := by
  rw [cel3_snoc, cel3_snoc, List.set_append_right _ _ (by rw [cel3_len]; omega), cel3_len, show Y.length * 3 + 1 - Y.length * 3 = 1 by omega]
  rfl
theorem addr_any (B : Nat) (X : List Rw) (s : Rw) (v : Value) (w : World) (hB : B ≤ w.heap.size) (hO : w.ownsRow B 33 3 v X.length (cel3 .i64 X)) (hl : X.length < 9000000) : Calls Try.prog 33 #[v, .agg #[.int .i64 s.1, .int .i64 s.2.1, .int .i64 s.2.2]] w fun e w' => ∃ v', e = .returned v' ∧ w'.ownsRow B 33 3 v' (addR X s).length (cel3 .i64 (addR X s)) ∧ Below B w w' ∧ Far (fun k => v.ownBlock = some k) w w' ∧ (v'.ownBlock = v.ownBlock ∨ ∃ k, v'.ownBlock = some k ∧ w.heap.size ≤ k) := by
  obtain ⟨x, y, z⟩ := s
  rcases snoc_or X with rfl | ⟨Y, ⟨t1, t2, t3⟩, rfl⟩
  · exact add_nil B x y z v w hB hO
  · have hlen : (Y ++ [(t1, t2, t3)]).length = Y.length + 1 := by simp
    rw [hlen] at hO hl
    obtain ⟨a, c, rfl, hc, hn⟩ := owns_slice hO
    obtain ⟨g, rfl⟩ := hn (by omega)
    have c2 := (owns_cell hO rfl (Y.length * 3 + 2) (.int .i64 t3) (by rw [cel3_snoc, List.getElem?_append_right (by rw [cel3_len]; omega), cel3_len, show Y.length * 3 + 2 - Y.length * 3 = 2 by omega]; rfl)).1
    have c1 := (owns_cell hO rfl (Y.length * 3 + 1) (.int .i64 t2) (by rw [cel3_snoc, List.getElem?_append_right (by rw [cel3_len]; omega), cel3_len, show Y.length * 3 + 1 - Y.length * 3 = 1 by omega]; rfl)).1
    rw [addR_snoc]
    by_cases ht : t3 = z
    · rw [if_pos ht]
      have := add_join B Y.length g c _ (Y ++ [(t1, y, t3)]) t2 t3 x y z w hB (by omega) (by simpa using ht) hO c2 c1 (cel3_set Y t1 t2 t3 y)
      simpa using this
    · rw [if_neg ht]
      have := add_app B Y.length g c _ t3 x y z w hB (by omega) (by simpa using ht) hO c2
      simpa using this
end Go.Proofs.Ytookbgmolggohaa
