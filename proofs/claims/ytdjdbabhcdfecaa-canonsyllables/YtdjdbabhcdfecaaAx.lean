/-
  That the law's awake says yes. No conditions.
-/
import Derived.Test.YtdjdbabhcdfecaaAw
import Derived.RangeFuncRecord
namespace Go.Proofs.Ytdjdbabhcdfecaa
open Go.RowKit
/-- The three code points that come out. -/
def xJ : Nat → Int
  | 0 => 65
  | 1 => 4352
  | _ => 4449
theorem owns_three {W : World} {b : Nat} {v : Value} (h : W.ownsRow b 21 1 v 3 (prK 2)) : ∃ g cap, v = .slice (some ⟨g, 0, none⟩) 3 cap ∧ 3 ≤ cap ∧ ∀ j, j < 3 → W.cell? ⟨g, j, none⟩ = some (.int .i32 (xJ j)) := by
  obtain ⟨h1, ⟨h2, h0⟩ | ⟨g, cap, cur, h2, hb, hg, hc, hcap, hpre⟩⟩ := h
  · cases h0
  · refine ⟨g, cap, h2, hc, fun j hj => ?_⟩
    have hi : (prK 2)[j]? = some (.int .i32 (xJ j)) := by
      match j, hj with
      | 0, _ => rfl
      | 1, _ => rfl
      | 2, _ => rfl
    rw [← hpre.2, List.getElem?_take_of_lt (by omega), Array.getElem?_toList] at hi
    simp [World.cell?, hg, hi]
set_option maxRecDepth 100000 in
theorem decompose_two (g cap : Nat) (w : World) (h0 : w.cell? ⟨g, 0, none⟩ = some (.int .i32 65)) (h1 : w.cell? ⟨g, 1, none⟩ = some (.int .i32 44032)) :
    Calls Try.prog 11 #[.pointer none, .slice (some ⟨g, 0, none⟩) 2 cap] w fun e w' => ∃ g' cap', e = .returned (.slice (some ⟨g', 0, none⟩) 3 cap') ∧ (∀ j, j < 3 → w'.cell? ⟨g', j, none⟩ = some (.int .i32 (xJ j))) ∧ Below w.heap.size w w' := by
  have K := all_two g cap w h0 h1
  clear h0 h1
  go_enter Try.func11, Try.ntmps11
  go_wp2_with (go_at_call 13; refine K.mono ?_)
  first | rintro e w1 v1 rfl o1 b1 | rintro e w1 ⟨v1, rfl, o1, b1⟩
  obtain ⟨g', cap', rfl, hcap, hX⟩ := owns_three o1
  have KP := put_three g' cap' xJ w1 hX hcap
  have HX : Hid (∀ j, j < 3 → w1.cell? ⟨g', j, none⟩ = some (.int .i32 (xJ j))) := hX
  clear hX o1 K
  go_wp2_with (go_at_call 14; refine KP.mono ?_)
  first | rintro e w2 rfl b2 | rintro e w2 ⟨rfl, b2⟩
  go_wp2
  go_ret
  exact ⟨_, _, rfl, fun j hj => (b2.cell (p := ⟨g', j, none⟩) (World.block_lt_of_cell? w1 _ (HX.out j hj))).trans (HX.out j hj), b1.trans (b2.mono b1.size)⟩
set_option maxRecDepth 100000 in
theorem runes_three (g cap g' cap' : Nat) (w : World) (h : ∀ j, j < 3 → w.cell? ⟨g, j, none⟩ = some (.int .i32 (xJ j))) (h' : ∀ j, j < 3 → w.cell? ⟨g', j, none⟩ = some (.int .i32 (xJ j))) :
    Calls Try.prog 10 #[.slice (some ⟨g, 0, none⟩) 3 cap, .slice (some ⟨g', 0, none⟩) 3 cap'] w fun e w' => e = .returned (.bool true) ∧ Below w.heap.size w w' := by
  have H : Hid (∀ j, j < 3 → w.cell? ⟨g, j, none⟩ = some (.int .i32 (xJ j))) := h
  have H' : Hid (∀ j, j < 3 → w.cell? ⟨g', j, none⟩ = some (.int .i32 (xJ j))) := h'
  clear h h'
  go_enter Try.func10, Try.ntmps10
  go_wp2
  go_loopw [13] (fun i wr => ∃ k : Nat, i = .int .i64 k ∧ k ≤ 3 ∧ Hid (Below w.heap.size w wr)) (fun i _ => 3 - (RowKit.intOf i).toNat)
  case atStart => exact ⟨0, rfl, by omega, Below.refl _ _⟩
  case round =>
    obtain ⟨k, rfl, hk, HB⟩ := hrel
    by_cases hl : k < 3
    · have hi : (k : Int) < 3 := by omega
      have c1 : wr.cell? ⟨g, k, none⟩ = some (.int .i32 (xJ k)) := (HB.out.cell (p := ⟨g, k, none⟩) (World.block_lt_of_cell? w _ (H.out k hl))).trans (H.out k hl)
      have c2 : wr.cell? ⟨g', k, none⟩ = some (.int .i32 (xJ k)) := (HB.out.cell (p := ⟨g', k, none⟩) (World.block_lt_of_cell? w _ (H'.out k hl))).trans (H'.out k hl)
      generalize xJ k = x at *
      go_wp2
      go_quiet (fail)
      have HF : Hid (Below w.heap.size w (wr.drewN nq)) := below_drewN HB.out _
      go_wp2
      exact ⟨⟨k + 1, by go_num, by omega, HF⟩, by simp [RowKit.intOf]; omega⟩
    · have hi : ¬ (k : Int) < 3 := by omega
      go_wp2
      go_ret
      exact ⟨rfl, HB.out⟩
set_option maxRecDepth 100000 in
theorem new_nil (w : World) : Calls Try.prog 12 #[.pointer none] w fun e w' => e = .returned (.pointer (some ⟨w.heap.size, 0, none⟩)) ∧ Below w.heap.size w w' := by
  go_enter Try.func12, Try.ntmps12
  go_wp2
  go_ret
  exact ⟨rfl, (Below.refl _ _).alloc (Nat.le_refl _) _⟩
theorem cells_two (w : World) (x y : Value) (t : TypeId) : (w.alloc (.cells #[x, y] t)).cell? ⟨w.heap.size, 0, none⟩ = some x ∧ (w.alloc (.cells #[x, y] t)).cell? ⟨w.heap.size, 1, none⟩ = some y := by
  have h := World.alloc_heap_new w (.cells #[x, y] t)
  constructor <;> simp only [World.cell?, h] <;> rfl
theorem cells_three (w : World) (t : TypeId) : ∀ j, j < 3 → (w.alloc (.cells #[.int .i32 65, .int .i32 4352, .int .i32 4449] t)).cell? ⟨w.heap.size, j, none⟩ = some (.int .i32 (xJ j)) := fun j hj => by
  have h := World.alloc_heap_new w (.cells #[.int .i32 65, .int .i32 4352, .int .i32 4449] t)
  match j, hj with
  | 0, _ => simp only [World.cell?, h]; rfl
  | 1, _ => simp only [World.cell?, h]; rfl
  | 2, _ => simp only [World.cell?, h]; rfl
set_option maxRecDepth 100000 in
theorem awake_any (w : World) : Calls Try.prog 5 #[] w fun e w' => e = .returned (.bool true) ∧ Below w.heap.size w w' := by
  have c := cells_two w (.int .i32 65) (.int .i32 44032) 21
  have K := decompose_two w.heap.size 2 _ c.1 c.2
  clear c
  have B0 : Hid (Below w.heap.size w (w.alloc (.cells #[.int .i32 65, .int .i32 44032] 21))) := (Below.refl _ _).alloc (Nat.le_refl _) _
  go_enter Try.func5, Try.ntmps5
  go_wp2_with (go_at_call 11; refine K.mono ?_)
  first | rintro e w1 g' cap' rfl hX b1 | rintro e w1 ⟨g', cap', rfl, hX, b1⟩
  have B1 : Hid (Below w.heap.size w w1) := B0.out.trans (b1.mono (by simp))
  have B2 : Hid (Below w.heap.size w (w1.alloc (.cells #[.int .i32 65, .int .i32 4352, .int .i32 4449] 21))) := B1.out.alloc B1.out.size _
  have KR := runes_three g' cap' w1.heap.size 3 (w1.alloc (.cells #[.int .i32 65, .int .i32 4352, .int .i32 4449] 21)) (fun j hj => ((Below.refl w1.heap.size w1).alloc (Nat.le_refl _) _).cell (World.block_lt_of_cell? w1 _ (hX j hj)) |>.trans (hX j hj)) (cells_three w1 21)
  clear hX b1 K
  go_wp2_with (go_at_call 10; refine KR.mono ?_)
  first | rintro e w2 rfl b2 | rintro e w2 ⟨rfl, b2⟩
  have B3 : Hid (Below w.heap.size w w2) := B2.out.trans (b2.mono B2.out.size)
  clear b2 KR
  go_wp2_with (go_at_call 12; refine (new_nil _).mono ?_)
  first | rintro e w3 rfl b3 | rintro e w3 ⟨rfl, b3⟩
  have B4 : Hid (Below w.heap.size w w3) := B3.out.trans (b3.mono B3.out.size)
  clear b3
  go_wp2
  go_ret
  exact ⟨rfl, B4.out⟩
end Go.Proofs.Ytdjdbabhcdfecaa
