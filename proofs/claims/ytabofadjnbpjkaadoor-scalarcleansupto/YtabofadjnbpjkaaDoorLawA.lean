/-
  The walk of the law ScalarAt: it returns true and turns nothing that was there. Conditions: the text takes no more bytes than one that comes in can; the library's two tables hold what their text lays.
-/
import Derived.Test.YtabofadjnbpjkaaDoorVal
import Derived.Test.YtabofadjnbpjkaaDoorFir
namespace Go.Proofs.YtabofadjnbpjkaaDoor
open Go.RowKit Go.Lib
/-- No piece. -/
def noPiece : Array Value := #[.int .i64 0, .int .i64 0, .int .i32 0, .bool false]
set_option maxRecDepth 100000 in
set_option maxHeartbeats 1000000 in
theorem at_none (s : ByteArray) (k : Int) (w : World) (hk : k < 0 ∨ (s.size : Int) ≤ k) : Calls Tryd.prog 21 #[.string s, .int .i64 k] w fun e w' => e = .returned (.tuple #[.agg #[.int .i64 0, .int .i64 0, .int .i32 0, .bool false], .int .i64 21]) ∧ Below w.heap.size w w' := by
  by_cases h : k < 0
  · have d : decide (k < 0) = true := by simp [h]
    go_enter Tryd.func21, Tryd.ntmps21
    go_wp2
    exact bodyPost_ret (v := .tuple #[.agg #[.int .i64 0, .int .i64 0, .int .i32 0, .bool false], .int .i64 21]) (by simp [results, Tryd.results21, go_sem]) rfl ⟨rfl, (Below.refl _ _).alloc (Nat.le_refl _) _⟩
  · have d : decide (k < 0) = false := by simp; omega
    have d2 : (s.size : Int) ≤ k := by omega
    go_enter Tryd.func21, Tryd.ntmps21
    go_wp2
    exact bodyPost_ret (v := .tuple #[.agg #[.int .i64 0, .int .i64 0, .int .i32 0, .bool false], .int .i64 21]) (by simp [results, Tryd.results21, go_sem]) rfl ⟨rfl, (Below.refl _ _).alloc (Nat.le_refl _) _⟩
set_option maxRecDepth 100000 in
set_option maxHeartbeats 1000000 in
theorem at_some (s : ByteArray) (k : Nat) (w : World) (hs : s.size ≤ 140737488351232) (hk : k < s.size) (hT : Utf8Tabs 0 1 w) (hg : 1 < w.heap.size) : Calls Tryd.prog 21 #[.string s, .int .i64 k] w fun e w' => e = .returned (.tuple #[.agg (pcs s k), .int .i64 0]) ∧ Below w.heap.size w w' := by
  have d : decide ((k : Int) < 0) = false := by simp
  have d1 : ¬ (k : Int) < 0 := by omega
  have d2 : ¬ (s.size : Int) ≤ (k : Int) := by omega
  have hTa := tabs_below hT hg ((Below.refl _ w).alloc (Nat.le_refl _) (.cells #[.int .i64 0, .int .i64 0, .int .i32 0, .bool false] 34))
  have key := pieceAt_any s k _ hs hk hTa (by simp; omega)
  unfold pcs at key ⊢
  clear hTa hT
  go_enter Tryd.func21, Tryd.ntmps21
  go_wp2_with (go_at_call 36; refine key.mono ?_; rintro e w' ⟨rfl, hb⟩; obtain ⟨hbc, hbf⟩ := bcell hb)
  exact bodyPost_ret (v := .tuple #[.agg #[.int .i64 k, .int .i64 (pSt s k), .int .i32 (pRu s k), .bool (pWr s k)], .int .i64 0]) (by simp [results, Tryd.results21, go_sem, hbc]) rfl ⟨rfl, ((((((Below.refl _ w).alloc (Nat.le_refl _) _).trans (hb.mono (by simp))).setCell (by simp) _).setCell (by simp) _).setCell (by simp) _).setCell (by simp) _⟩
set_option maxRecDepth 100000 in
set_option maxHeartbeats 1000000 in
theorem piece_same (x y r : Int) (q : Bool) (w : World) : Calls Tryd.prog 19 #[.agg #[.int .i64 x, .int .i64 y, .int .i32 r, .bool q], .agg #[.int .i64 x, .int .i64 y, .int .i32 r, .bool q]] w fun e w' => e = .returned (.bool true) ∧ Below w.heap.size w w' := by
  cases q
  all_goals
    go_enter Tryd.func19, Tryd.ntmps19
    go_wp2
    go_ret
    exact ⟨rfl, ((Below.refl _ _).alloc (Nat.le_refl _) _).alloc (by simp) _⟩
set_option maxRecDepth 100000 in
theorem eqNone (w : World) : (Op.equalIn 10000 34 (.agg #[.int .i64 0, .int .i64 0, .int .i32 0, .bool false]) (.agg #[.int .i64 0, .int .i64 0, .int .i32 0, .bool false])).run Tryd.prog w = .ok true w := by kernel_rfl
set_option maxRecDepth 100000 in
set_option maxHeartbeats 2000000 in
theorem lawA (s : ByteArray) (k : Int) (w : World) (hs : s.size ≤ 140737488351232) (hT : Utf8Tabs 0 1 w) (hg : 2 ≤ w.heap.size) : Calls Tryd.prog 5 #[.string s, .int .i64 k] w fun e w' => e = .returned (.bool true) ∧ Below w.heap.size w w' := by
  have k0 := awake_any w hT hg
  by_cases hk : k < 0 ∨ (s.size : Int) ≤ k
  · have k1 := fun w => at_none s k w hk
    have e0 := eqNone
    by_cases h : k < 0
    · have d : decide (k < 0) = true := by simp [h]
      go_enter Tryd.func5, Tryd.ntmps5
      go_wp2_with (first | (go_at_call 9; refine k0.mono ?_; rintro e w1 ⟨rfl, hb⟩) | (go_at_call 21; refine (k1 _).mono ?_; rintro e w2 ⟨rfl, hb2⟩))
      go_ret
      exact ⟨rfl, (hb.trans (hb2.mono hb.size)).alloc (by have := hb.size; have := hb2.size; omega) _⟩
    · have d : decide (k < 0) = false := by simp; omega
      have d2 : (s.size : Int) ≤ k := by omega
      go_enter Tryd.func5, Tryd.ntmps5
      go_wp2_with (first | (go_at_call 9; refine k0.mono ?_; rintro e w1 ⟨rfl, hb⟩) | (go_at_call 21; refine (k1 _).mono ?_; rintro e w2 ⟨rfl, hb2⟩))
      go_ret
      exact ⟨rfl, (hb.trans (hb2.mono hb.size)).alloc (by have := hb.size; have := hb2.size; omega) _⟩
  · obtain ⟨n, rfl⟩ : ∃ n : Nat, k = (n : Int) := ⟨k.toNat, by omega⟩
    have hn : n < s.size := by omega
    have d : decide ((n : Int) < 0) = false := by simp
    have d1 : ¬ (n : Int) < 0 := by omega
    have d2 : ¬ (s.size : Int) ≤ (n : Int) := by omega
    have hni : (n : Int) ≤ (s.size : Int) := by omega
    have hz : (s.extract n s.size).size = s.size - n := by simp
    have k2 := fun w => first_any (s.extract n s.size) w (by omega) (by omega)
    rw [hz, byt_tail, byt_tail, byt_tail, byt_tail] at k2
    have k2' : ∀ w, Calls Tryd.prog 22 #[.string (s.extract n s.size)] w fun e w' => e = .returned (.agg #[.int .i64 0, .int .i64 (pSt s n), .int .i32 (pRu s n), .bool (pWr s n)]) ∧ Below w.heap.size w w' := k2
    clear k2
    go_enter Tryd.func5, Tryd.ntmps5
    go_wp2_with fail
    refine k0.mono ?_
    rintro e w1 ⟨rfl, hb⟩
    have hT1 := tabs_below hT (by omega) hb
    have k1 := at_some s n w1 hs hn hT1 (by have := hb.size; omega)
    unfold pcs at k1
    clear hT hT1 k0 hz
    go_wp2_with (go_at_call 21; refine k1.mono ?_; rintro e w2 ⟨rfl, hb2⟩)
    refine (k2' _).mono ?_
    rintro e w3 ⟨rfl, hb3⟩
    obtain ⟨hbc, hbf⟩ := bcell hb3
    have c0 : w3.cell? ⟨w2.heap.size, 0, none⟩ = some (.int .i64 n) := by rw [hbc _ _ (by simp)]; simp [World.cell?_alloc_at]
    have c1 : w3.cell? ⟨w2.heap.size, 1, none⟩ = some (.int .i64 (pSt s n)) := by rw [hbc _ _ (by simp)]; simp [World.cell?_alloc_at]
    have c2 : w3.cell? ⟨w2.heap.size, 2, none⟩ = some (.int .i32 (pRu s n)) := by rw [hbc _ _ (by simp)]; simp [World.cell?_alloc_at]
    have c3 : w3.cell? ⟨w2.heap.size, 3, none⟩ = some (.bool (pWr s n)) := by rw [hbc _ _ (by simp)]; simp [World.cell?_alloc_at]
    clear hbc hbf
    have h3' : w2.heap.size < w3.heap.size := by have := hb3.size; simp at this; omega
    have h3 : w2.heap.size + 1 ≤ w3.heap.size := by have := hb3.size; simpa using this
    go_wp2_with (go_at_call 19; refine (piece_same _ _ _ _ _).mono ?_; rintro e w4 ⟨rfl, hb4⟩)
    go_ret
    have q1 := hb.trans (hb2.mono hb.size)
    have q2 := q1.alloc q1.size (.cells #[.int .i64 n, .int .i64 (pSt s n), .int .i32 (pRu s n), .bool (pWr s n)] 34)
    have q3 := q2.trans (hb3.mono q2.size)
    have q4 := q3.alloc q3.size (.cells #[.int .i64 n, .int .i64 (pSt s n), .int .i32 (pRu s n), .bool (pWr s n)] 35)
    exact ⟨rfl, q4.trans (hb4.mono q4.size)⟩
end Go.Proofs.YtabofadjnbpjkaaDoor
