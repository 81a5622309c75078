/-
  The contracts of full, Blocks and newMaker. No conditions but that a table's numbers are from 0 to 65535.
-/
import Derived.Test.YtookbgmolggohaaMe
import Derived.Laws.MakeOwn
import Derived.Carry
namespace Go.Proofs.Ytookbgmolggohaa
open Go.RowKit
def zerosF : Nat → Int := fun _ => 0
theorem info70 : (Try.prog.info? 70).map (fun i => (i.zero, i.size, i.bytes)) = some (some (.int .u16 0), 1, 2) := by kernel_rfl
theorem info72s : (Try.prog.info? 72).map (fun i => (i.size, i.bytes)) = some (128, 256) := by kernel_rfl
theorem info72z : (Try.prog.info? 72).map (fun i => i.zero) = some (some (.agg (Array.replicate 128 (.int .u16 0)))) := by kernel_rfl
theorem rep_row (n : Nat) : Array.replicate n (Value.int .u16 0) = rowOf .u16 n zerosF := by
  apply Array.ext
  · simp [rowOf]
  · intro i h1 h2
    simp [rowOf, zerosF]
theorem info72 : (Try.prog.info? 72).map (fun i => (i.zero, i.size, i.bytes)) = some (some (.agg (rowOf .u16 128 zerosF)), 128, 256) := by
  have h1 := info72s
  have h2 := info72z
  rw [rep_row] at h2
  cases h : Try.prog.info? 72 with
  | none => rw [h] at h1; cases h1
  | some i =>
    rw [h] at h1 h2
    simp only [Option.map_some, Option.some.injEq, Prod.mk.injEq] at h1 h2 ⊢
    exact ⟨h2, h1.1, h1.2⟩
theorem made_row {z : Array Value} (n m : Nat) (hz : z = rowOf .u16 n zerosF) (hn : 0 < n) : madeCells z m = rowOf .u16 m zerosF := by
  subst hz
  apply Array.ext
  · simp [madeCells, rowOf]
  · intro i h1 h2
    have hm : i % n < n := Nat.mod_lt _ hn
    simp [madeCells, rowOf, zerosF, hm]
theorem agg_cells (x : Array Value) : (Value.agg x).cells = x := rfl
theorem make73 (w : World) : (Instr.makeSlice 73 (.int .i64 8704) (.int .i64 8704)).run Try.prog w = .ok (.slice (some ⟨w.heap.size, 0, none⟩) 8704 8704) (w.alloc (.cells (rowOf .u16 8704 zerosF) 70)) := by
  obtain ⟨i, hi, hz, hs, hb⟩ := info_parts info70
  have := run_makeSlice (P := Try.prog) w 73 70 i _ Try.underlying73 hi hz .i64 .i64 8704 8704 (by decide) (by decide) (by rw [hs]; decide) (by rw [hb]; decide) (by decide)
  rw [hs] at this
  rw [made_row (z := (Value.int .u16 0).cells) 1 _ rfl (by decide)] at this
  exact this
theorem make74 (w : World) : (Instr.makeSlice 74 (.int .i64 1) (.int .i64 1)).run Try.prog w = .ok (.slice (some ⟨w.heap.size, 0, none⟩) 1 1) (w.alloc (.cells (rowOf .u16 128 zerosF) 72)) := by
  obtain ⟨i, hi, hz, hs, hb⟩ := info_parts info72
  have := run_makeSlice (P := Try.prog) w 74 72 i _ Try.underlying74 hi hz .i64 .i64 1 1 (by decide) (by decide) (by rw [hs]; decide) (by rw [hb]; decide) (by decide)
  rw [hs] at this
  rw [made_row (z := (Value.agg (rowOf .u16 128 zerosF)).cells) 128 _ (agg_cells _) (by decide)] at this
  exact this
theorem blk_nought (i : Nat) : blk nought i = zerosF := by
  funext j
  unfold blk nought zerosF
  split <;> rfl
theorem unl_nought : ∀ n, unl nought (n + 1) = [zerosF]
  | 0 => by rw [unl_succ, blk_nought]; simp [unl]
  | n + 1 => by rw [unl_succ, blk_nought, unl_nought n]; simp
theorem plc_nought (i : Nat) : plc nought i = 0 := by
  have := plc_lt nought (Nat.lt_succ_self i)
  rw [unl_nought] at this
  simpa using this
theorem tab_nought {w : World} {T pg ug : Nat} (h1 : w.heap[T]? = some (.cells #[.slice (some ⟨pg, 0, none⟩) 8704 8704, .slice (some ⟨ug, 0, none⟩) 1 1] 76 (0, 0))) (h2 : w.heap[pg]? = some (.cells (rowOf .u16 8704 zerosF) 70 (0, 0))) (h3 : w.heap[ug]? = some (.cells (rowOf .u16 128 zerosF) 72 (0, 0))) : TabAt w T nought := by
  refine ⟨pg, 8704, ug, 1, ?_, Nat.le_refl _, ?_, fun i hi => ?_, fun i f hf j hj => ?_⟩
  · rw [unl_nought 8703]; exact h1
  · rw [unl_nought 8703]; exact Nat.le_refl _
  · rw [cell_of_row w pg i _ 70 (0, 0) h2, rowOf_get _ _ _ _ hi, plc_nought]; rfl
  · rw [unl_nought 8703] at hf
    obtain ⟨rfl, rfl⟩ : i = 0 ∧ f = zerosF := by
      cases i with
      | zero => simp at hf; exact ⟨rfl, hf.symm⟩
      | succ i => simp at hf
    rw [cell_of_row w ug _ _ 72 (0, 0) h3, Nat.zero_mul, Nat.zero_add, rowOf_get _ _ _ _ hj]
theorem three_a (w : World) (x y z : Obj) : (((w.alloc x).alloc y).alloc z).drew.heap[w.heap.size]? = some x := by
  show (((w.alloc x).alloc y).alloc z).heap[w.heap.size]? = some x
  rw [Go.RowKit.Below.heap_alloc _ _ _ (by simp; omega), Go.RowKit.Below.heap_alloc _ _ _ (by simp), heap_alloc_last]
theorem three_b (w : World) (x y z : Obj) : (((w.alloc x).alloc y).alloc z).drew.heap[w.heap.size + 1]? = some y := by
  show (((w.alloc x).alloc y).alloc z).heap[w.heap.size + 1]? = some y
  rw [Go.RowKit.Below.heap_alloc _ _ _ (by simp)]
  have := heap_alloc_last (w.alloc x) y
  simpa using this
theorem three_c (w : World) (x y z : Obj) : (((w.alloc x).alloc y).alloc z).drew.heap[w.heap.size + 1 + 1]? = some z := by
  show (((w.alloc x).alloc y).alloc z).heap[w.heap.size + 1 + 1]? = some z
  have := heap_alloc_last ((w.alloc x).alloc y) z
  simpa using this
set_option maxRecDepth 100000 in
set_option maxHeartbeats 1000000 in
theorem full_nil (w : World) : Calls Try.prog 39 #[.pointer none] w fun e w' => ∃ T, e = .returned (.pointer (some ⟨T, 0, none⟩)) ∧ TabAt w' T nought ∧ Below w.heap.size w w' := by
  have m1 := make73
  have m2 := make74
  generalize hA : rowOf .u16 8704 zerosF = A at m1
  generalize hB : rowOf .u16 128 zerosF = B at m2
  replace hA : Hid _ := hA
  replace hB : Hid _ := hB
  go_enter Try.func39, Try.ntmps39
  go_wp2_with (go_at_call 34; refine (says_nil _).mono ?_)
  intro e w1 hq
  first | (obtain ⟨rfl, b1⟩ : _ ∧ _ := hq) | (subst hq; intro b1)
  go_wp2_with fail
  go_region
  all_goals (
    go_wp2
    go_ret)
  · refine ⟨_, rfl, tab_nought (three_c w1 _ _ _) ?_ ?_, (((b1.alloc b1.size _).alloc (by have := b1.size; simp; omega) _).alloc (by have := b1.size; simp; omega) _).drew⟩
    · rw [hA.out]; exact three_a w1 _ _ _
    · rw [hB.out]; exact three_b w1 _ _ _
  · refine ⟨_, rfl, tab_nought (three_c w1 _ _ _) ?_ ?_, (((b1.alloc b1.size _).alloc (by have := b1.size; simp; omega) _).alloc (by have := b1.size; simp; omega) _).drew⟩
    · rw [hA.out]; exact three_b w1 _ _ _
    · rw [hB.out]; exact three_a w1 _ _ _
theorem full_tab (w : World) (T : Nat) (F : Int → Int) (h : TabAt w T F) : Calls Try.prog 39 #[.pointer (some ⟨T, 0, none⟩)] w fun e w' => e = .returned (.pointer (some ⟨T, 0, none⟩)) ∧ Below w.heap.size w w' := by
  go_enter Try.func39, Try.ntmps39
  go_wp2_with (go_at_call 34; refine (says_tab _ T F h).mono ?_)
  intro e w1 hq
  first | (obtain ⟨rfl, b1⟩ : _ ∧ _ := hq) | (subst hq; intro b1)
  go_wp2
  go_ret
  exact ⟨rfl, b1⟩
theorem full_any (w : World) (v : Value) (F : Int → Int) (h : Tab w v F) : Calls Try.prog 39 #[v] w fun e w' => ∃ T, e = .returned (.pointer (some ⟨T, 0, none⟩)) ∧ TabAt w' T F ∧ Below w.heap.size w w' := by
  rcases h with ⟨rfl, rfl⟩ | ⟨T, rfl, h⟩
  · exact full_nil w
  · exact (full_tab w T F h).mono fun e w' ⟨h1, h2⟩ => ⟨T, h1, h.below h2, h2⟩
theorem blocks_any (w : World) (v : Value) (F : Int → Int) (h : Tab w v F) : Calls Try.prog 24 #[v] w fun e w' => e = .returned (.int .i64 ((unl F 8704).length : Nat)) ∧ Below w.heap.size w w' := by
  generalize hn : (unl F 8704).length = n
  replace hn : Hid _ := hn
  go_enter Try.func24, Try.ntmps24
  go_wp2_with (go_at_call 39; refine (full_any _ v F h).mono ?_)
  rintro e w1 ⟨T, rfl, h1, b1⟩
  obtain ⟨pg, pc, ug, uc, c1, -, -, c4, c5⟩ := h1
  obtain ⟨d1, d2⟩ := tab_cells c1
  rw [hn.out] at d2
  clear c1 c4 c5
  go_wp2
  go_ret
  exact ⟨rfl, b1⟩
theorem maker_new (w : World) : Calls Try.prog 48 #[] w fun e w' => e = .returned (.pointer (some ⟨w.heap.size + 2, 0, none⟩)) ∧ w' = ((w.alloc (.cells #[.slice none 0 0, .slice none 0 0] 76)).alloc (.map #[] 0)).alloc (.cells #[.pointer (some ⟨w.heap.size, 0, none⟩), .map (some (w.heap.size + 1))] 100) := by
  have hmm := @run_makeMap Try.prog
  go_enter Try.func48, Try.ntmps48
  go_wp2
  go_ret
  exact ⟨rfl, rfl⟩
end Go.Proofs.Ytookbgmolggohaa
