/-
  The contract of the document's Unwords: of four words it makes the row of 256 bits, and turns nothing that was there. No condition.
-/
import Derived.Test.YtoliiccmfmgmlaaProg
import Derived.Test.YtoliiccmfmgmlaaRow
import Derived.KernelRfl
namespace Go.Proofs.Ytoliiccmfmgmlaa
open Go.RowKit
theorem info38 : (Try.prog.info? 38).map (fun i => (i.zero, i.size)) = some (some (.agg (rowOf .u8 256 fun _ => 0)), 256) := by kernel_rfl
attribute [local go_sem] rowOf_size rowOf_set isRow_at isRow_past rowIn_at rowIn_past setRow_at setRow_past
attribute [local go_sem] st_at
def bitv (X : Nat → Int) (j : Nat) : Int := bits .and .u64 (X (j / 64) / 2 ^ (j % 64)) 1 % 256
set_option maxRecDepth 100000 in
set_option maxHeartbeats 400000 in
theorem unw_any (X : Nat → Int) (w : World) : Calls Try.prog 14 #[.agg (rowOf .u64 4 X)] w fun e w' => e = .returned (.agg (rowOf .u8 256 (bitv X))) ∧ Below w.heap.size w w' := by
  obtain ⟨hz, hi⟩ := zero_of_info info38
  clear hi
  go_enter Try.func14, Try.ntmps14
  go_wp2_with fail
  go_loopw [4] (fun i wr => ∃ k : Nat, k ≤ 256 ∧ i = .int .i64 k ∧ wr = (((w.alloc (.cells (rowOf .u64 4 X) 35)).alloc (.cells (rowOf .u8 256 fun _ => 0) 38)).alloc (.cells (rowOf .u8 256 fun j => if j < k then bitv X j else 0) 38))) (fun i _ => 256 - (intOf i).toNat)
  case atStart => exact ⟨0, by omega, rfl, by simp⟩
  case round =>
    obtain ⟨k, hk, rfl, rfl⟩ := hrel
    by_cases hlt : k < 256
    · have h4 := rowOf_get .u64 4 X (k / 64) (by omega)
      go_wp2
      refine ⟨⟨k + 1, by omega, by go_num, ?_⟩, by simp [intOf]; omega⟩
      refine congrArg (fun c => World.alloc _ (.cells c 38)) (rowOf_congr .u8 256 _ _ fun i hi => ?_)
      by_cases e : i = k
      · subst e
        simp [bitv]
      · have h1 : (i < k + 1) = (i < k) := by apply propext; omega
        simp [e, h1]
    · have hk' : k = 256 := by omega
      subst hk'
      go_wp2_with (refine wpList_ld rfl 38 _ rfl _ rfl 256 Try.underlying38 rfl (by kernel_rfl) (rowOf .u8 256 fun j => if j < 256 then bitv X j else 0) ?_ ?_ ?_)
      case refine_1 => simp [isRow_at, rowOf_size]
      case refine_2 => simp [rowIn_at]
      refine bodyPost_ret (v := .agg (rowOf .u8 256 (bitv X))) (results_ld Try.results14 _ _ (w.heap.size + 1) 256 rfl Try.underlying38 rfl (by kernel_rfl) _ ?_ ?_) rfl ⟨rfl, ?_⟩
      · simp [isRow_past, isRow_at, rowOf_size]
      · simp [rowIn_past, rowIn_at]
        exact rowOf_congr .u8 256 _ _ fun i hi => by simp [hi]
      · exact (((Below.refl _ _).alloc (by simp) _).alloc (by simp) _).alloc (by simp; omega) _
end Go.Proofs.Ytoliiccmfmgmlaa
