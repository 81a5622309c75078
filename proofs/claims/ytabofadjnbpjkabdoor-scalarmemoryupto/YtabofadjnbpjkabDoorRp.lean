/-
  The contract of the document's Pieces: the pieces of a text, in a list of the call's own. Condition: the text's pieces take no more bytes than a list can.
-/
import Derived.Test.YtabofadjnbpjkabDoorPcs
import Derived.Test.YtabofadjnbpjkabDoorFir
namespace Go.Proofs.YtabofadjnbpjkabDoor
open Go.RowKit Go.Lib
theorem info35 : (Tryd.prog.info? 71).map (fun i => (i.zero, i.size, i.bytes)) = some (some (.agg #[.int .i64 0, .int .i64 0, .int .i32 0, .bool false]), 4, 24) := by kernel_rfl
theorem first_at (s : ByteArray) (k : Nat) (hs : s.size ≤ 140737488351232) (hk : k < s.size) : ∀ w, Calls Tryd.prog 52 #[.string (s.extract k s.size)] w fun e w' => e = .returned (.agg #[.int .i64 0, .int .i64 (pSt s k), .int .i32 (pRu s k), .bool (pWr s k)]) ∧ Below w.heap.size w w' := by
  have hz : (s.extract k s.size).size = s.size - k := by simp
  have k2 := fun w => first_any (s.extract k s.size) w (by omega) (by omega)
  rw [hz, byt_tail, byt_tail, byt_tail, byt_tail] at k2
  exact k2
theorem owns_below {W W' : World} {b e size n : Nat} {v : Value} {xs : List Value} (h : W.ownsRow b e size v n xs) (hb : Below W.heap.size W W') : W'.ownsRow b e size v n xs := by
  obtain ⟨h1, h2 | ⟨g, cap, cur, rfl, h3, h4, h5⟩⟩ := h
  · exact ⟨h1, .inl h2⟩
  · exact ⟨h1, .inr ⟨g, cap, cur, rfl, h3, (hb.block g (Array.getElem?_eq_some_iff.1 h4).1).trans h4, h5⟩⟩
set_option maxRecDepth 100000 in
set_option maxHeartbeats 1000000 in
theorem rpieces_any (s : ByteArray) (w : World) (hs : s.size ≤ 5864062010000) :
    Calls Tryd.prog 38 #[.string s] w fun e W' => ∃ v, e = .returned v ∧ W'.ownsRow w.heap.size 71 4 v (poss s).length (pcsC s (poss s)) ∧ Below w.heap.size w W' := by
  have hlen : (poss s).length ≤ s.size := posAt_len s s.size 0 (by omega)
  obtain ⟨i0, hi, hz0, hz1, hz2⟩ := info_parts info35
  go_enter Tryd.func38, Tryd.ntmps38
  go_wp2_with fail
  go_loopw [3, 4] (fun v i wr => ∃ (pre : List Nat) (k : Nat), i = .int .i64 k ∧ k ≤ s.size ∧ poss s = pre ++ posAt s k ∧ wr.ownsRow w.heap.size 71 4 v pre.length (pcsC s pre) ∧ Below w.heap.size w wr) (fun _ i _ => s.size - (RowKit.intOf i).toNat)
  case atStart =>
    exact ⟨[], 0, rfl, by omega, rfl, ⟨rfl, .inr ⟨_, _, _, rfl, Nat.le_refl _, World.alloc_heap_new _ _, by simp, by decide, rfl, rfl⟩⟩, (Below.refl _ _).alloc (Nat.le_refl _) _⟩
  case round =>
    obtain ⟨pre, k, rfl, hk, hx, hown, hB⟩ := hrel
    by_cases hlt : k < s.size
    · have hlti : (k : Int) < (s.size : Int) := by omega
      have hki : (k : Int) ≤ (s.size : Int) := by omega
      rw [posAt_cons s k hlt] at hx
      have hpl : pre.length < s.size := by rw [hx] at hlen; simp at hlen; omega
      have HX : Hid (poss s = pre ++ k :: posAt s (k + pSt s k)) := hx
      clear hx
      have hp := pSt_le s k hlt
      have key := first_at s k (by omega) hlt
      go_wp2_with fail
      refine (key _).mono ?_
      rintro e w' ⟨rfl, hb1⟩
      obtain ⟨X, hX⟩ : ∃ X, (w'.alloc (.cells #[.int .i64 0, .int .i64 (pSt s k), .int .i32 (pRu s k), .bool (pWr s k)] 71)).setCell ⟨w'.heap.size, 0, none⟩ (.int .i64 k) = X := ⟨_, rfl⟩
      have hXs : X.heap.size = w'.heap.size + 1 := by rw [← hX]; simp
      have hXb : Below wr.heap.size wr X := by rw [← hX]; exact (hb1.alloc hb1.size _).setCell (by simp; exact hb1.size) _
      have hXh : X.heap[w'.heap.size]? = some (.cells (pcs s k) 71 (0, 0)) := by
        rw [← hX]
        show (Array.modify (w'.alloc _).heap w'.heap.size _)[w'.heap.size]? = _
        rw [Array.getElem?_modify, World.alloc_heap_new]
        simp [pcs]
      have c0 : X.cell? ⟨w'.heap.size, 0, none⟩ = some (.int .i64 k) := by simp only [World.cell?, hXh, pcs]; rfl
      have c1 : X.cell? ⟨w'.heap.size, 1, none⟩ = some (.int .i64 (pSt s k)) := by simp only [World.cell?, hXh, pcs]; rfl
      have c2 : X.cell? ⟨w'.heap.size, 2, none⟩ = some (.int .i32 (pRu s k)) := by simp only [World.cell?, hXh, pcs]; rfl
      have c3 : X.cell? ⟨w'.heap.size, 3, none⟩ = some (.bool (pWr s k)) := by simp only [World.cell?, hXh, pcs]; rfl
      have hown2 := owns_below hown hXb
      have hB2 := hB.trans (hXb.mono hB.size)
      have hcn := cells_new X (pcs s k) 71
      unfold pcs at hcn
      rw [hXs] at hcn
      have hg0 : ∀ g, u3.ownBlock = some g → g < wr.heap.size := fun g h => (hown.lt g h).2
      have HO : Hid (X.ownsRow w.heap.size 71 4 u3 pre.length (pcsC s pre)) := hown2
      have hws := hb1.size
      have HB2 : Hid (Below w.heap.size w X) := hB2
      clear hown hown2 hXb hb1 hB2
      go_wp2_with (at_builtin; go_must (refine wpList_append_own_at _ rfl _ _ 69 rfl w.heap.size 71 i0 _ 4 24 Tryd.underlying69 hi hz0 hz1 hz2 rfl (by decide) _ _ _ rfl (HO.out.alloc _) ⟨w'.heap.size + 1, 0, none⟩ 1 1 [.int .i64 k, .int .i64 (pSt s k), .int .i32 (pRu s k), .bool (pWr s k)] rfl rfl hcn (by simp [Value.oneCell']) (by unfold maxLen; omega) (by omega) (by have := HB2.out.size; simp; omega) ?_))
      intro v' w1 hown' hgrow _ _
      have hq : w1.heap[w'.heap.size]? = some (.cells (pcs s k) 71 (0, 0)) := by
        rw [hgrow.block _ (by simp; omega) (fun e => by have := hg0 _ e.symm; omega), Below.heap_alloc _ _ _ (by omega), hXh]
      have d1 : w1.cell? ⟨w'.heap.size, 1, none⟩ = some (.int .i64 (pSt s k)) := by simp only [World.cell?, hq, pcs]; rfl
      have hbel := (HB2.out.alloc HB2.out.size (.cells #[.int .i64 k, .int .i64 (pSt s k), .int .i32 (pRu s k), .bool (pWr s k)] 71)).grown hgrow (by have := hB.size; simp; omega) (fun j hj => (HO.out.lt j hj).1)
      have HW : Hid (w1.ownsRow w.heap.size 71 4 v' (pre ++ [k]).length (pcsC s (pre ++ [k]))) := by
        unfold Hid
        rw [pcsC_snoc, List.length_append]
        exact hown'
      clear hown' hgrow
      go_wp2
      exact ⟨⟨pre ++ [k], k + pSt s k, by go_num, by omega, by rw [HX.out]; simp, HW.out, hbel⟩, by simp [RowKit.intOf]; omega⟩
    · have hlti : ¬ (k : Int) < (s.size : Int) := by omega
      rw [posAt_nil s k hlt, List.append_nil] at hx
      have HX : Hid (poss s = pre) := hx
      clear hx
      go_wp2
      go_ret
      rw [HX.out]
      exact ⟨_, rfl, hown, hB⟩
end Go.Proofs.YtabofadjnbpjkabDoor
