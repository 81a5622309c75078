/-
  The contract of Union: the words of all sets that are handed in. Condition: the slice is what a slice that came in can be.
-/
import Derived.Test.YtoliiccmfmgmlaaDoorWd
import Derived.KernelRfl
import Derived.Test.YtoliiccmfmgmlaaDoorCel
namespace Go.Proofs.YtoliiccmfmgmlaaDoor
open Go.RowKit
/-- The words of the first k sets together. -/
def orTo (Xs : Nat → Nat → Int) : Nat → Nat → Int
  | 0 => fun _ => 0
  | k + 1 => orS (orTo Xs k) (Xs k)
set_option maxHeartbeats 800000 in
theorem union_any (Xs : Nat → Nat → Int) (g n c : Nat) (w : World) (hn : n ≤ 1000) (hg : g < w.heap.size) (hx : ∀ i, i < n → ∀ j, j < 4 → w.cell? ⟨g, i * 4 + j, none⟩ = some (.int .u64 (Xs i j))) :
    Calls Tryd.prog 19 #[.slice (some ⟨g, 0, none⟩) n c] w fun e w' => e = .returned (.agg #[.int .u64 ((orTo Xs n) 0), .int .u64 ((orTo Xs n) 1), .int .u64 ((orTo Xs n) 2), .int .u64 ((orTo Xs n) 3)]) ∧ Below w.heap.size w w' := by
  have HX : Hid (∀ i, i < n → ∀ j, j < 4 → w.cell? ⟨g, i * 4 + j, none⟩ = some (.int .u64 (Xs i j))) := hx
  clear hx
  go_enter Tryd.func19, Tryd.ntmps19
  go_wp2_with fail
  go_loopw [10] (fun i wr => ∃ k : Nat, k ≤ n ∧ i = .int .i64 k ∧ Cel .u64 wr w.heap.size 4 (fun _ => 0) ∧ Cel .u64 wr (w.heap.size + 1) 4 (orTo Xs k) ∧ Below w.heap.size w wr ∧ w.heap.size + 2 ≤ wr.heap.size) (fun i _ => n - (intOf i).toNat)
  case atStart =>
    refine ⟨0, by omega, rfl, ?_, ?_, ((Below.refl _ _).alloc (by simp) _).alloc (by simp) _, by simp⟩
    · refine (Cel.new w _ 27 fun j hj => ?_).alloc (by omega) _
      match j, hj with
      | 0, _ => rfl
      | 1, _ => rfl
      | 2, _ => rfl
      | 3, _ => rfl
    · have := Cel.new (n := 4) (kd := .u64) (f := orTo Xs 0) (w.alloc (.cells #[.int .u64 0, .int .u64 0, .int .u64 0, .int .u64 0] 27)) #[.int .u64 0, .int .u64 0, .int .u64 0, .int .u64 0] 27 fun j hj => by
        match j, hj with
        | 0, _ => rfl
        | 1, _ => rfl
        | 2, _ => rfl
        | 3, _ => rfl
      simpa using this
  case round =>
    obtain ⟨k, hk, rfl, hR, hU, hbr, hsz⟩ := hrel
    by_cases hlt : k < n
    · have hc0 := (hbr.cell (p := ⟨g, k * 4 + 0, none⟩) hg).trans (HX.out k hlt 0 (by omega))
      have hc1 := (hbr.cell (p := ⟨g, k * 4 + 1, none⟩) hg).trans (HX.out k hlt 1 (by omega))
      have hc2 := (hbr.cell (p := ⟨g, k * 4 + 2, none⟩) hg).trans (HX.out k hlt 2 (by omega))
      have hc3 := (hbr.cell (p := ⟨g, k * 4 + 3, none⟩) hg).trans (HX.out k hlt 3 (by omega))
      simp only [Nat.add_zero] at hc0
      have HBR : Hid (Below w.heap.size w wr) := hbr
      clear hbr
      obtain ⟨hu0, hf0⟩ := hU 0 (by omega)
      obtain ⟨hu1, hf1⟩ := hU 1 (by omega)
      obtain ⟨hu2, hf2⟩ := hU 2 (by omega)
      obtain ⟨hu3, hf3⟩ := hU 3 (by omega)
      have hlt' : w.heap.size + 1 < wr.heap.size := by omega
      have i0 : ∀ w, (Instr.index 27 (.agg #[.int .u64 ((Xs k) 0), .int .u64 ((Xs k) 1), .int .u64 ((Xs k) 2), .int .u64 ((Xs k) 3)]) (.int .i64 0)).run Tryd.prog w = .ok (.int .u64 (Xs k 0)) w := fun _ => by kernel_rfl
      have i1 : ∀ w, (Instr.index 27 (.agg #[.int .u64 ((Xs k) 0), .int .u64 ((Xs k) 1), .int .u64 ((Xs k) 2), .int .u64 ((Xs k) 3)]) (.int .i64 1)).run Tryd.prog w = .ok (.int .u64 (Xs k 1)) w := fun _ => by kernel_rfl
      have i2 : ∀ w, (Instr.index 27 (.agg #[.int .u64 ((Xs k) 0), .int .u64 ((Xs k) 1), .int .u64 ((Xs k) 2), .int .u64 ((Xs k) 3)]) (.int .i64 2)).run Tryd.prog w = .ok (.int .u64 (Xs k 2)) w := fun _ => by kernel_rfl
      have i3 : ∀ w, (Instr.index 27 (.agg #[.int .u64 ((Xs k) 0), .int .u64 ((Xs k) 1), .int .u64 ((Xs k) 2), .int .u64 ((Xs k) 3)]) (.int .i64 3)).run Tryd.prog w = .ok (.int .u64 (Xs k 3)) w := fun _ => by kernel_rfl
      go_wp2_with fail
      refine wp_loop_rounds 5 ?_
      rw [rounds_succ]
      go_wp2
      rw [rounds_succ]
      go_wp2
      rw [rounds_succ]
      go_wp2
      rw [rounds_succ]
      go_wp2
      rw [rounds_succ]
      go_wp2
      refine ⟨⟨k + 1, by omega, by go_num, ?_, ?_, ?_, ?_⟩, by simp [intOf]; omega⟩
      · exact ((((hR.far _ (by simp) _).far _ (by simp) _).far _ (by simp) _).far _ (by simp) _).alloc (by omega) _
      · refine Cel.alloc (Cel.congr ((((hU.set 0 _).set 1 _).set 2 _).set 3 _) fun j hj => ?_) (by omega) _
        match j, hj with
        | 0, _ => rfl
        | 1, _ => rfl
        | 2, _ => rfl
        | 3, _ => rfl
      · exact ((((HBR.out.setCell (by simp) _).setCell (by simp) _).setCell (by simp) _).setCell (by simp) _).alloc (by simp [World.setCell]; omega) _
      · simp [World.setCell]; omega
    · have e : k = n := by omega
      subst e
      obtain ⟨hu0, hf0⟩ := hU 0 (by omega)
      obtain ⟨hu1, hf1⟩ := hU 1 (by omega)
      obtain ⟨hu2, hf2⟩ := hU 2 (by omega)
      obtain ⟨hu3, hf3⟩ := hU 3 (by omega)
      obtain ⟨hr0, hg0⟩ := hR 0 (by omega)
      obtain ⟨hr1, hg1⟩ := hR 1 (by omega)
      obtain ⟨hr2, hg2⟩ := hR 2 (by omega)
      obtain ⟨hr3, hg3⟩ := hR 3 (by omega)
      go_wp2
      refine bodyPost_ret (v := .agg #[.int .u64 ((orTo Xs k) 0), .int .u64 ((orTo Xs k) 1), .int .u64 ((orTo Xs k) 2), .int .u64 ((orTo Xs k) 3)]) (by simp [results, Tryd.results19, go_sem, hr0, hr1, hr2, hr3]) rfl ⟨rfl, ?_⟩
      exact (((hbr.setCell (by simp) _).setCell (by simp) _).setCell (by simp) _).setCell (by simp) _
set_option maxHeartbeats 400000 in
theorem union_none (w : World) : Calls Tryd.prog 19 #[.slice none 0 0] w fun e w' => e = .returned (.agg #[.int .u64 0, .int .u64 0, .int .u64 0, .int .u64 0]) ∧ Below w.heap.size w w' := by
  go_enter Tryd.func19, Tryd.ntmps19
  go_wp2_with fail
  refine wp_loop_rounds 1 ?_
  rw [rounds_succ]
  go_wp2
  refine bodyPost_ret (v := .agg #[.int .u64 0, .int .u64 0, .int .u64 0, .int .u64 0]) (by simp [results, Tryd.results19, go_sem]) rfl ⟨rfl, ?_⟩
  exact ((Below.refl _ _).alloc (by simp) _).alloc (by simp) _
theorem union_two (p q : Nat → Bool) (w : World) (t : TypeId) : Calls Tryd.prog 19 #[.slice (some ⟨w.heap.size, 0, none⟩) 2 2] (w.alloc (.cells #[.int .u64 (wd p 0), .int .u64 (wd p 1), .int .u64 (wd p 2), .int .u64 (wd p 3), .int .u64 (wd q 0), .int .u64 (wd q 1), .int .u64 (wd q 2), .int .u64 (wd q 3)] t)) fun e w' => e = .returned (.agg #[.int .u64 ((wd (fun j => p j || q j)) 0), .int .u64 ((wd (fun j => p j || q j)) 1), .int .u64 ((wd (fun j => p j || q j)) 2), .int .u64 ((wd (fun j => p j || q j)) 3)]) ∧ Below (w.alloc (.cells #[.int .u64 (wd p 0), .int .u64 (wd p 1), .int .u64 (wd p 2), .int .u64 (wd p 3), .int .u64 (wd q 0), .int .u64 (wd q 1), .int .u64 (wd q 2), .int .u64 (wd q 3)] t)).heap.size (w.alloc (.cells #[.int .u64 (wd p 0), .int .u64 (wd p 1), .int .u64 (wd p 2), .int .u64 (wd p 3), .int .u64 (wd q 0), .int .u64 (wd q 1), .int .u64 (wd q 2), .int .u64 (wd q 3)] t)) w' := by
  have key := union_any (fun i => if i = 0 then wd p else wd q) w.heap.size 2 2 (w.alloc (.cells #[.int .u64 (wd p 0), .int .u64 (wd p 1), .int .u64 (wd p 2), .int .u64 (wd p 3), .int .u64 (wd q 0), .int .u64 (wd q 1), .int .u64 (wd q 2), .int .u64 (wd q 3)] t)) (by omega) (by simp) fun i hi j hj => by
    rw [World.cell?_alloc_at _ _ _ _ rfl]
    match i, hi, j, hj with
    | 0, _, 0, _ => rfl
    | 0, _, 1, _ => rfl
    | 0, _, 2, _ => rfl
    | 0, _, 3, _ => rfl
    | 1, _, 0, _ => rfl
    | 1, _, 1, _ => rfl
    | 1, _, 2, _ => rfl
    | 1, _, 3, _ => rfl
  have he : ∀ i, i < 4 → orTo (fun i => if i = 0 then wd p else wd q) 2 i = wd (fun j => p j || q j) i := fun i hi => by
    show orS (orS (fun _ => 0) (wd p)) (wd q) i = _
    rw [← or_wd]
    unfold orS
    have hz : bits BinOp.or IntKind.u64 0 (wd p i) = wd p i := by
      have := u64_or_nat 0 (wn p i) (by omega) (wn_lt p i)
      rw [Nat.zero_or] at this
      exact this
    rw [hz]
  rw [he 0 (by omega), he 1 (by omega), he 2 (by omega), he 3 (by omega)] at key
  exact key

end Go.Proofs.YtoliiccmfmgmlaaDoor
