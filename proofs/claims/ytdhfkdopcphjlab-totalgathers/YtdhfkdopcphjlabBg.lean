/-
  The document's great number: 280 digits handed by value. The contracts of digit and bit. Conditions: the digit's place is one of the 280, and nothing runs over 64 bits.
-/
import Derived.Test.YtdhfkdopcphjlabFc
namespace Go.Proofs.Ytdhfkdopcphjlab
open Go.RowKit
/-- The digits as a row. -/
def rowB (f : Nat → Int) : Array Value := rowOf .i64 280 f
theorem info62 : (Try.prog.info? 75).map (fun i => (i.zero, i.size)) = some (some (.agg (rowB fun _ => 0)), 280) := by kernel_rfl
theorem rowB_get (f : Nat → Int) (i : Nat) (h : i < 280) : (rowB f)[i]? = some (.int .i64 (f i)) := rowOf_get _ _ _ _ h
theorem rowB_size (f : Nat → Int) : (rowB f).size = 280 := rowOf_size _ _ _
/-- A digit set anew. -/
def upd (f : Nat → Int) (k : Nat) (v : Int) : Nat → Int := fun j => if j = k then v else f j
theorem rowB_set (f : Nat → Int) (k : Nat) (v : Int) : (rowB f).setIfInBounds k (.int .i64 v) = rowB (upd f k v) := rowOf_set _ _ _ _ _
theorem cell_newB (w : World) (f : Nat → Int) (k : Nat) (h : k < 280) : (w.alloc (.cells (rowB f) 75)).cell? ⟨w.heap.size, k, none⟩ = some (.int .i64 (f k)) := by
  rw [World.cell?_alloc_at _ _ _ _ rfl]
  exact rowB_get f k h
attribute [local go_sem] rowOf_size rowB_size isRow_at isRow_past rowIn_at rowIn_past setRow_at setRow_past
attribute [local go_sem] st_at
theorem stB (f : Nat → Int) (w : World) (m : Nat) (h : isRow w m 280) : (storeCells ⟨m, 0, none⟩ (rowB f).toList 0).run Try.prog w = .ok () (w.setRow m (rowB f)) := st_at w m 280 .i64 _ h
attribute [local go_sem] stB
attribute [irreducible] rowB
theorem rowB_elem (f : Nat → Int) (i : Nat) (h : i < 280) (h' : i < (rowB f).size) : (rowB f)[i]'h' = .int .i64 (f i) := by
  have := rowB_get f i h
  rw [Array.getElem?_eq_getElem h'] at this
  exact Option.some.inj this
set_option maxRecDepth 100000 in
set_option maxHeartbeats 400000 in
theorem digit_any (f : Nat → Int) (k : Nat) (d : Int) (ng : Bool) (w : World) (hk : k < 280) (hf1 : -4611686018427387904 ≤ f k) (hf2 : f k ≤ 4611686018427387904) (hd1 : 0 ≤ d) (hd2 : d ≤ 65536) :
    Calls Try.prog 96 #[.agg (rowB f), .int .i64 (k : Int), .int .i64 d, .bool ng] w fun e w' => e = .returned (.agg (rowB (upd f k (f k + if ng = true then -d else d)))) ∧ Below w.heap.size w w' := by
  obtain ⟨hz, hi⟩ := zero_of_info info62
  clear hi
  have hg : ∀ h : k < (rowB f).size, (rowB f)[k]'h = .int .i64 (f k) := fun h => rowB_elem f k hk h
  have k2 : (k : Int) < 280 := by omega
  generalize hF : f k = F at *
  cases ng
  · simp only [Bool.false_eq_true, if_false]
    have hs := rowB_set f k (F + d)
    go_enter Try.func96, Try.ntmps96
    go_wp2_with (refine wpList_ld rfl 75 _ rfl w.heap.size rfl 280 Try.underlying75 rfl (by kernel_rfl) (rowB (upd f k (F + d))) ?_ ?_ ?_)
    case refine_1 => simp [isRow_at, isRow_past, rowB_size]
    case refine_2 => simp [rowIn_at, rowIn_past]
    refine bodyPost_ret (v := .agg (rowB (upd f k (F + d)))) (results_ld Try.results96 _ _ (w.heap.size + 1) 280 rfl Try.underlying75 rfl (by kernel_rfl) (rowB (upd f k (F + d))) ?_ ?_) rfl ⟨rfl, ((Below.refl _ _).alloc (Nat.le_refl _) _).alloc (by simp) _⟩
    · simp [isRow_at, rowB_size]
    · simp [rowIn_at]
  · simp only [if_true]
    have hs := rowB_set f k (F + -d)
    go_enter Try.func96, Try.ntmps96
    go_wp2_with (refine wpList_ld rfl 75 _ rfl w.heap.size rfl 280 Try.underlying75 rfl (by kernel_rfl) (rowB (upd f k (F + -d))) ?_ ?_ ?_)
    case refine_1 => simp [isRow_at, isRow_past, rowB_size]
    case refine_2 => simp [rowIn_at, rowIn_past]
    refine bodyPost_ret (v := .agg (rowB (upd f k (F + -d)))) (results_ld Try.results96 _ _ (w.heap.size + 1) 280 rfl Try.underlying75 rfl (by kernel_rfl) (rowB (upd f k (F + -d))) ?_ ?_) rfl ⟨rfl, ((Below.refl _ _).alloc (Nat.le_refl _) _).alloc (by simp) _⟩
    · simp [isRow_at, rowB_size]
    · simp [rowIn_at]
end Go.Proofs.Ytdhfkdopcphjlab
