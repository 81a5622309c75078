/-
  The contract of the document's Decode: what the pieces of a text say, in a list of the call's own. Condition: the text's pieces take no more bytes than a list can.
-/
import Derived.Test.YtabofadjnbpjkabDoorRp
namespace Go.Proofs.YtabofadjnbpjkabDoor
open Go.RowKit Go.Lib
theorem pcsC_at (s : ByteArray) (j : Nat) (hj : j < 4) : ∀ (l : List Nat) (i k : Nat), l[i]? = some k → (pcsC s l)[i * 4 + j]? = (pcs s k)[j]?
  | [], i, k, h => by simp at h
  | a :: l, 0, k, h => by
    simp at h
    subst h
    have : pcsC s (a :: l) = (pcs s a).toList ++ pcsC s l := rfl
    rw [this, Nat.zero_mul, Nat.zero_add, List.getElem?_append_left (by simp [pcs]; omega)]
    simp
  | a :: l, i + 1, k, h => by
    have h' : l[i]? = some k := by simpa using h
    have : pcsC s (a :: l) = (pcs s a).toList ++ pcsC s l := rfl
    rw [this, List.getElem?_append_right (by simp [pcs]; omega), ← pcsC_at s j hj l i k h']
    congr 1
    simp [pcs]; omega
/-- Cells of a row that a call owns. -/
theorem owns_cell {W : World} {b e size n : Nat} {v : Value} {xs : List Value} (h : W.ownsRow b e size v n xs) {g cap : Nat} (hv : v = .slice (some ⟨g, 0, none⟩) n cap) (i : Nat) (u : Value) (hi : xs[i]? = some u) : W.cell? ⟨g, i, none⟩ = some u := by
  obtain ⟨h1, ⟨h2, _⟩ | ⟨g', cap', cur, rfl, h3, h4, h5, h6, h7, h8⟩⟩ := h
  · rw [h2] at hv; cases hv
  · cases hv
    have hl : i < n * size := by rw [← h1]; exact (List.getElem?_eq_some_iff.1 hi).1
    rw [← h8, List.getElem?_take_of_lt hl, Array.getElem?_toList] at hi
    simp [World.cell?, h4, hi]
theorem owns_apart {W : World} {b e size n b' e' size' n' : Nat} {v v' : Value} {xs xs' : List Value} (h : W.ownsRow b e size v n xs) (h' : W.ownsRow b' e' size' v' n' xs') (hne : e ≠ e') : v.ownBlock = none ∨ v.ownBlock ≠ v'.ownBlock := by
  obtain ⟨h1, ⟨rfl, _⟩ | ⟨g, cap, cur, rfl, h3, h4, h5⟩⟩ := h
  · exact .inl rfl
  · obtain ⟨k1, ⟨rfl, _⟩ | ⟨g', cap', cur', rfl, k3, k4, k5⟩⟩ := h'
    · exact .inr (by simp [Value.ownBlock])
    · refine .inr fun q => ?_
      simp [Value.ownBlock] at q
      subst q
      rw [h4] at k4
      simp at k4
      exact hne k4.2
set_option maxRecDepth 100000 in
set_option maxHeartbeats 1000000 in
theorem rdecode_any (s : ByteArray) (w : World) (hs : s.size ≤ 5864062010000) :
    Calls Tryd.prog 21 #[.string s] w fun e W' => ∃ v, e = .returned v ∧ W'.ownsRow w.heap.size 21 1 v (poss s).length (runesC s (poss s)) ∧ Below w.heap.size w W' := by
  have hlen : (poss s).length ≤ s.size := posAt_len s s.size 0 (by omega)
  obtain ⟨i0, hi, hz0, hz1, hz2⟩ := info_parts info21
  go_enter Tryd.func21, Tryd.ntmps21
  go_wp2_with fail
  refine (rpieces_any s _ hs).mono ?_
  rintro e w1 ⟨v1, rfl, hp, hb⟩
  obtain ⟨a1, c1, hv1⟩ : ∃ a1 c1, v1 = .slice a1 (poss s).length c1 := by
    obtain ⟨_, ⟨rfl, h0⟩ | ⟨g, cap, cur, rfl, _⟩⟩ := hp
    · exact ⟨none, 0, by rw [h0]⟩
    · exact ⟨_, _, rfl⟩
  subst hv1
  have HP : Hid (w1.ownsRow (w.alloc (Obj.cells #[] 21)).heap.size 71 4 (.slice a1 (poss s).length c1) (poss s).length (pcsC s (poss s))) := hp
  clear hp
  go_wp2_with fail
  go_loopw [3, 10] (fun v i wr => ∃ (k : Nat), i = .int .i64 k ∧ k ≤ (poss s).length ∧ wr.ownsRow w.heap.size 21 1 v k (runesC s ((poss s).take k)) ∧ wr.ownsRow (w.alloc (Obj.cells #[] 21)).heap.size 71 4 (.slice a1 (poss s).length c1) (poss s).length (pcsC s (poss s)) ∧ Below w.heap.size w wr) (fun _ i _ => (poss s).length - (RowKit.intOf i).toNat)
  case atStart =>
    have hb0 : Below w.heap.size w (w.alloc (Obj.cells #[] 21)) := (Below.refl _ _).alloc (Nat.le_refl _) _
    have h0 : (w.alloc (Obj.cells #[] 21)).ownsRow w.heap.size 21 1 (.slice (some ⟨w.heap.size, 0, none⟩) 0 0) 0 [] := ⟨rfl, .inr ⟨_, _, _, rfl, Nat.le_refl _, World.alloc_heap_new _ _, by simp, by decide, rfl, rfl⟩⟩
    exact ⟨0, rfl, by omega, owns_below h0 hb, HP.out, hb0.trans (hb.mono hb0.size)⟩
  case round =>
    obtain ⟨k, rfl, hk, hown, hpp, hB⟩ := hrel
    by_cases hlt : k < (poss s).length
    · have hlti : (k : Int) < ((poss s).length : Int) := by omega
      obtain ⟨g, rfl⟩ : ∃ g, a1 = some ⟨g, 0, none⟩ := by
        obtain ⟨_, ⟨h, h0⟩ | ⟨g, cap, cur, h, _⟩⟩ := hpp
        · omega
        · cases h; exact ⟨g, rfl⟩
      have hq : (poss s)[k]? = some (poss s)[k] := List.getElem?_eq_getElem hlt
      obtain ⟨q, hq0⟩ : ∃ q, (poss s)[k] = q := ⟨_, rfl⟩
      rw [hq0] at hq
      have c0 : wr.cell? ⟨g, k * 4, none⟩ = some (.int .i64 q) := owns_cell hpp rfl _ _ ((pcsC_at s 0 (by omega) _ _ _ hq).trans rfl)
      have c1' : wr.cell? ⟨g, k * 4 + 1, none⟩ = some (.int .i64 (pSt s q)) := owns_cell hpp rfl _ _ ((pcsC_at s 1 (by omega) _ _ _ hq).trans rfl)
      have c2 : wr.cell? ⟨g, k * 4 + 2, none⟩ = some (.int .i32 (pRu s q)) := owns_cell hpp rfl _ _ ((pcsC_at s 2 (by omega) _ _ _ hq).trans rfl)
      have c3 : wr.cell? ⟨g, k * 4 + 3, none⟩ = some (.bool (pWr s q)) := owns_cell hpp rfl _ _ ((pcsC_at s 3 (by omega) _ _ _ hq).trans rfl)
      have HO : Hid (wr.ownsRow w.heap.size 21 1 u3 k (runesC s ((poss s).take k))) := hown
      have HPP : Hid (wr.ownsRow (w.alloc (Obj.cells #[] 21)).heap.size 71 4 (.slice (some ⟨g, 0, none⟩) (poss s).length c1) (poss s).length (pcsC s (poss s))) := hpp
      have HB : Hid (Below w.heap.size w wr) := hB
      have HQ : Hid ((poss s)[k]? = some q) := hq
      clear hown hpp hB hq HP hq0
      have hsz := HB.out.size
      have hcn := cell_one_new (wr.alloc (.cells #[.int .i64 q, .int .i64 (pSt s q), .int .i32 (pRu s q), .bool (pWr s q)] 71)) (.int .i32 (pRu s q)) 21
      rw [World.size_alloc] at hcn
      go_wp2_with (at_builtin; go_must (refine wpList_append_own _ rfl _ _ 23 rfl w.heap.size 21 i0 (.int .i32 0) 1 4 Tryd.underlying23 hi hz0 hz1 hz2 rfl (by decide) _ _ _ rfl ((HO.out.alloc _).alloc _) ⟨wr.heap.size + 1, 0, none⟩ 1 1 [.int .i32 (pRu s q)] rfl rfl hcn (by simp [Value.oneCell']) (by unfold maxLen; omega) (by omega) (by simp; omega) ?_))
      intro v' w1 hown' hgrow _
      have hbel := ((HB.out.alloc hsz (.cells #[.int .i64 q, .int .i64 (pSt s q), .int .i32 (pRu s q), .bool (pWr s q)] 71)).alloc (by simp; omega) (.cells #[.int .i32 (pRu s q)] 21)).grown hgrow (by simp; omega) (fun j hj => (HO.out.lt j hj).1)
      have hpp2 := ((HPP.out.alloc (.cells #[.int .i64 q, .int .i64 (pSt s q), .int .i32 (pRu s q), .bool (pWr s q)] 71)).alloc (.cells #[.int .i32 (pRu s q)] 21)).kept hgrow (owns_apart HPP.out HO.out (by decide))
      have HW : Hid (w1.ownsRow w.heap.size 21 1 v' (k + 1) (runesC s ((poss s).take (k + 1)))) := by
        unfold Hid
        have e1 : (poss s).take (k + 1) = (poss s).take k ++ [q] := by rw [List.take_add_one, HQ.out]; rfl
        rw [e1]
        simpa [runesC] using hown'
      clear hown' hgrow
      go_wp2
      exact ⟨⟨k + 1, by go_num, by omega, HW.out, hpp2, hbel⟩, by simp [RowKit.intOf]; omega⟩
    · have hlti : ¬ (k : Int) < ((poss s).length : Int) := by omega
      have e : k = (poss s).length := by omega
      subst e
      rw [List.take_length] at hown
      go_wp2
      go_ret
      exact ⟨_, rfl, hown, hB⟩
end Go.Proofs.YtabofadjnbpjkabDoor
