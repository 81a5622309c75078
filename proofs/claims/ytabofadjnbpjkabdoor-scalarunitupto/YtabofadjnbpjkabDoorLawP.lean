/-
  The walk of the law ScalarPlaces: it returns true and turns nothing that was there. Conditions: the text has at most about a million bytes; the library's two tables hold what their text lays.
-/
import Derived.Test.YtabofadjnbpjkabDoorJk
import Derived.BigQuiet
import Derived.Deep.QuietTactic
namespace Go.Proofs.YtabofadjnbpjkabDoor
open Go.RowKit Go.Lib
theorem below_drewN' {B : Nat} {a w : World} (h : Below B a w) (n : Nat) : Below B a (w.drewN n) := h.trans ⟨rfl, rfl, rfl, Nat.le_refl _, fun _ _ => rfl⟩
theorem pos_both (s : ByteArray) (a : Int) (hs : s.size ≤ 1048576) : ∃ x0 x1 x2 x3 e : Int, (∀ w, Utf8Tabs 0 1 w → 2 ≤ w.heap.size → Calls Tryd.prog 24 #[.string s, .int .i64 a] w fun r W' => r = .returned (.tuple #[.agg #[.int .i64 x0, .int .i64 x1, .int .i64 x2, .int .i64 x3], .int .i64 e]) ∧ Below w.heap.size w W') ∧ (∀ w, Calls Tryd.prog 25 #[.string s, .int .i64 a] w fun r W' => r = .returned (.tuple #[.agg #[.int .i64 x0, .int .i64 x1, .int .i64 x2, .int .i64 x3], .int .i64 e]) ∧ Below w.heap.size w W') := by
  by_cases h : a < 0 ∨ (s.size : Int) < a
  · exact ⟨0, 0, 0, 0, 21, fun w _ _ => pos_bad s a w (by omega) h, fun w => rpos_bad s a w h⟩
  · obtain ⟨n, rfl⟩ : ∃ n : Nat, a = n := ⟨a.toNat, by omega⟩
    exact ⟨_, _, _, _, 0, fun w hT hg => pos_good s n w (by omega) (by omega) hT hg, fun w => rpos_good s n w (by omega) (by omega)⟩
theorem strs_read {W : World} {base n : Nat} {v : Value} {L : List ByteArray} (h : W.ownsRow base 9 1 v L.length (strC L)) (hn : L.length = n) : ∃ a c, v = .slice a n c ∧ (0 < n → ∃ g, a = some ⟨g, 0, none⟩ ∧ ∀ j (hj : j < L.length), W.cell? ⟨g, j, none⟩ = some (.string L[j])) := by
  subst hn
  obtain ⟨a, c, rfl, hd⟩ := owns_slice h
  refine ⟨a, c, rfl, fun h0 => ?_⟩
  obtain ⟨g, rfl⟩ := hd h0
  refine ⟨g, rfl, fun j hj => ?_⟩
  have := owns_cell h rfl j (.string L[j]) (by simp [strC, hj])
  exact this
set_option maxRecDepth 100000 in
set_option maxHeartbeats 8000000 in
theorem lawP7 (s : ByteArray) (a u : Int) (w : World) (hs : s.size ≤ 1048576) (hu : u ≤ 9223372036854775807) (hT : Utf8Tabs 0 1 w) (hg : 2 ≤ w.heap.size) : Calls Tryd.prog 7 #[.string s, .int .i64 a, .int .i64 u] w fun e w' => e = .returned (.bool true) ∧ Below w.heap.size w w' := by
  have TB : Hid (∀ W, Below w.heap.size w W → Utf8Tabs 0 1 W ∧ 2 ≤ W.heap.size) := fun W hb => ⟨tabs_below hT (by omega) hb, by have := hb.size; omega⟩
  have K9 : Hid (∀ W, Below w.heap.size w W → Calls Tryd.prog 9 #[] W fun e w' => e = .returned (.bool true) ∧ Below W.heap.size W w') := fun W hb => awake_any W (TB.out W hb).1 (TB.out W hb).2
  obtain ⟨x0, x1, x2, x3, ex, h24, h25⟩ := pos_both s a hs
  have K24 : Hid (∀ W, Below w.heap.size w W → Calls Tryd.prog 24 #[.string s, .int .i64 a] W fun r W' => r = .returned (.tuple #[.agg #[.int .i64 x0, .int .i64 x1, .int .i64 x2, .int .i64 x3], .int .i64 ex]) ∧ Below W.heap.size W W') := fun W hb => h24 W (TB.out W hb).1 (TB.out W hb).2
  have K25 : Hid (∀ W, Calls Tryd.prog 25 #[.string s, .int .i64 a] W fun r W' => r = .returned (.tuple #[.agg #[.int .i64 x0, .int .i64 x1, .int .i64 x2, .int .i64 x3], .int .i64 ex]) ∧ Below W.heap.size W W') := h25
  obtain ⟨y, ey, hy⟩ : ∃ y ey : Int, unA s u = (y, ey) := ⟨_, _, rfl⟩
  have K26 : Hid (∀ W, Below w.heap.size w W → Calls Tryd.prog 26 #[.string s, .int .i64 u] W fun r W' => r = .returned (.tuple #[.int .i64 y, .int .i64 ey]) ∧ Below W.heap.size W W') := fun W hb => by
    have := unit_any s u W (by omega) hu (TB.out W hb).1 (TB.out W hb).2
    rw [hy] at this
    exact this
  have K27 : Hid (∀ W, Calls Tryd.prog 27 #[.string s, .int .i64 u] W fun r W' => r = .returned (.tuple #[.int .i64 y, .int .i64 ey]) ∧ Below W.heap.size W W') := fun W => by
    have := runit_any s u W (by omega) hu
    rw [hy] at this
    exact this
  have K25b : Hid (∀ W, Calls Tryd.prog 25 #[.string s, .int .i64 s.size] W fun r W' => r = .returned (.tuple #[.agg #[.int .i64 (lnF s (poss s) : Nat), .int .i64 (coF s (poss s) : Nat), .int .i64 ((poss s).length : Nat), .int .i64 (unS s (poss s) : Nat)], .int .i64 0]) ∧ Below W.heap.size W W') := fun W => by
    have := rpos_good s s.size W (by omega) (Nat.le_refl _)
    rw [ahead_end] at this
    exact this
  have K28 : Hid (∀ W, Below w.heap.size w W → Calls Tryd.prog 28 #[.string s] W fun r W' => r = .returned (.tuple #[.int .i64 ((poss s).length : Nat), .int .i64 (unS s (poss s) : Nat)]) ∧ Below W.heap.size W W') := fun W hb => count_any s W (by omega) (TB.out W hb).1 (TB.out W hb).2
  have K29 : Hid (∀ W, Calls Tryd.prog 29 #[.string s] W fun e W' => ∃ v, e = .returned v ∧ W'.ownsRow W.heap.size 9 1 v (lnAll s).length (strC (lnAll s)) ∧ Below W.heap.size W W') := fun W => lines_any s W (by omega)
  have K30 : Hid (∀ W, Calls Tryd.prog 30 #[.string s] W fun e W' => ∃ v, e = .returned v ∧ W'.ownsRow W.heap.size 9 1 v (lnAll s).length (strC (lnAll s)) ∧ Below W.heap.size W W') := fun W => rlines_any s W (by omega)
  have hln : (lnAll s).length ≤ 1048577 := by unfold lnAll; rw [List.length_append]; have := lnL_le s s.size; simp; omega
  have B : Hid (Below w.heap.size w w) := Below.refl _ _
  obtain ⟨Q1, hQ1⟩ : ∃ Q1 : Int, ((lnF s (poss s) : Nat) : Int) = Q1 := ⟨_, rfl⟩
  obtain ⟨Q2, hQ2⟩ : ∃ Q2 : Int, ((coF s (poss s) : Nat) : Int) = Q2 := ⟨_, rfl⟩
  obtain ⟨Q3, hQ3⟩ : ∃ Q3 : Int, (((poss s).length : Nat) : Int) = Q3 := ⟨_, rfl⟩
  obtain ⟨Q4, hQ4⟩ : ∃ Q4 : Int, ((unS s (poss s) : Nat) : Int) = Q4 := ⟨_, rfl⟩
  rw [hQ1, hQ2, hQ3, hQ4] at K25b
  rw [hQ3, hQ4] at K28
  clear hQ1 hQ2 hQ3 hQ4 hs hu hT hg h24 h25 hy
  generalize hLA : lnAll s = LA at *
  obtain ⟨nl, hnl⟩ : ∃ nl, LA.length = nl := ⟨_, rfl⟩
  have HNL : Hid (LA.length = nl) := hnl
  have hnli : (nl : Int) ≤ 1048577 := by omega
  clear hLA hln hnl
  go_enter Tryd.func7, Tryd.ntmps7
  go_wp2_with (go_at_call 9; refine (K9.out _ B.out).mono ?_)
  first | rintro e w1 rfl bb | rintro e w1 ⟨rfl, bb⟩
  replace B : Hid (Below w.heap.size w w1) := bb
  clear bb K9
  go_wp2_with (go_at_call 24; refine (K24.out _ B.out).mono ?_)
  first | rintro e w2 rfl bb | rintro e w2 ⟨rfl, bb⟩
  have B2 : Hid (Below w.heap.size w (w2.alloc (.cells #[.int .i64 x0, .int .i64 x1, .int .i64 x2, .int .i64 x3] 49))) := (B.out.trans (bb.mono B.out.size)).alloc (by have := B.out.size; have := bb.size; omega) _
  have P1 : Hid (Bl (w2.alloc (.cells #[.int .i64 x0, .int .i64 x1, .int .i64 x2, .int .i64 x3] 49)) w2.heap.size 49 #[.int .i64 x0, .int .i64 x1, .int .i64 x2, .int .i64 x3]) := World.alloc_heap_new _ _
  clear bb K24 B
  obtain ⟨wa, hwa⟩ : ∃ wa, w2.alloc (.cells #[.int .i64 x0, .int .i64 x1, .int .i64 x2, .int .i64 x3] 49) = wa := ⟨_, rfl⟩
  rw [hwa] at B2 P1
  go_wp2_with (go_at_call 25; refine (K25.out _).mono ?_)
  first | rintro e w3 rfl bb | rintro e w3 ⟨rfl, bb⟩
  clear hwa
  have B : Hid (Below w.heap.size w w3) := B2.out.trans (bb.mono B2.out.size)
  have P1' : Hid (Bl w3 w2.heap.size 49 #[.int .i64 x0, .int .i64 x1, .int .i64 x2, .int .i64 x3]) := P1.out.later bb
  clear bb K25 B2 P1
  have B2 : Hid (Below w.heap.size w (w3.alloc (.cells #[.int .i64 x0, .int .i64 x1, .int .i64 x2, .int .i64 x3] 52))) := B.out.alloc B.out.size _
  have P2 : Hid (Bl (w3.alloc (.cells #[.int .i64 x0, .int .i64 x1, .int .i64 x2, .int .i64 x3] 52)) w3.heap.size 52 #[.int .i64 x0, .int .i64 x1, .int .i64 x2, .int .i64 x3]) := World.alloc_heap_new _ _
  have P1 : Hid (Bl (w3.alloc (.cells #[.int .i64 x0, .int .i64 x1, .int .i64 x2, .int .i64 x3] 52)) w2.heap.size 49 #[.int .i64 x0, .int .i64 x1, .int .i64 x2, .int .i64 x3]) := P1'.out.later ((Below.refl _ _).alloc (Nat.le_refl _) _)
  clear P1' B
  obtain ⟨wb, hwb⟩ : ∃ wb, w3.alloc (.cells #[.int .i64 x0, .int .i64 x1, .int .i64 x2, .int .i64 x3] 52) = wb := ⟨_, rfl⟩
  rw [hwb] at B2 P2 P1
  have a0 : wb.cell? ⟨w2.heap.size, 0, none⟩ = some (.int .i64 x0) := P1.out.cell rfl
  have b0 : wb.cell? ⟨w3.heap.size, 0, none⟩ = some (.int .i64 x0) := P2.out.cell rfl
  have a1 : wb.cell? ⟨w2.heap.size, 1, none⟩ = some (.int .i64 x1) := P1.out.cell rfl
  have b1 : wb.cell? ⟨w3.heap.size, 1, none⟩ = some (.int .i64 x1) := P2.out.cell rfl
  have a2 : wb.cell? ⟨w2.heap.size, 2, none⟩ = some (.int .i64 x2) := P1.out.cell rfl
  have b2 : wb.cell? ⟨w3.heap.size, 2, none⟩ = some (.int .i64 x2) := P2.out.cell rfl
  have a3 : wb.cell? ⟨w2.heap.size, 3, none⟩ = some (.int .i64 x3) := P1.out.cell rfl
  have b3 : wb.cell? ⟨w3.heap.size, 3, none⟩ = some (.int .i64 x3) := P2.out.cell rfl
  have nx0 : (x0 != x0) = false := by simp
  have nx1 : (x1 != x1) = false := by simp
  have nx2 : (x2 != x2) = false := by simp
  have nx3 : (x3 != x3) = false := by simp
  have nex : (ex != ex) = false := by simp
  have ny : (y != y) = false := by simp
  have ney : (ey != ey) = false := by simp
  go_wp2_with (go_at_call 26; refine (K26.out _ B2.out).mono ?_)
  first | rintro e w4 rfl bb | rintro e w4 ⟨rfl, bb⟩
  clear hwb a0 a1 a2 a3 b0 b1 b2 b3 P1 P2
  have B : Hid (Below w.heap.size w w4) := B2.out.trans (bb.mono B2.out.size)
  clear bb K26 B2
  go_wp2_with (go_at_call 27; refine (K27.out _).mono ?_)
  first | rintro e w5 rfl bb | rintro e w5 ⟨rfl, bb⟩
  have B2 : Hid (Below w.heap.size w w5) := B.out.trans (bb.mono B.out.size)
  clear bb K27 B
  go_wp2_with (go_at_call 25; refine (K25b.out _).mono ?_)
  first | rintro e w6 rfl bb | rintro e w6 ⟨rfl, bb⟩
  have B : Hid (Below w.heap.size w w6) := B2.out.trans (bb.mono B2.out.size)
  clear bb K25b B2
  have B2 : Hid (Below w.heap.size w (w6.alloc (.cells #[.int .i64 Q1, .int .i64 Q2, .int .i64 Q3, .int .i64 Q4] 52))) := B.out.alloc B.out.size _
  have P3 : Hid (Bl (w6.alloc (.cells #[.int .i64 Q1, .int .i64 Q2, .int .i64 Q3, .int .i64 Q4] 52)) w6.heap.size 52 #[.int .i64 Q1, .int .i64 Q2, .int .i64 Q3, .int .i64 Q4]) := World.alloc_heap_new _ _
  clear B
  obtain ⟨wc, hwc⟩ : ∃ wc, w6.alloc (.cells #[.int .i64 Q1, .int .i64 Q2, .int .i64 Q3, .int .i64 Q4] 52) = wc := ⟨_, rfl⟩
  rw [hwc] at B2 P3
  go_wp2_with (go_at_call 28; refine (K28.out _ B2.out).mono ?_)
  first | rintro e w7 rfl bb | rintro e w7 ⟨rfl, bb⟩
  clear hwc
  have B : Hid (Below w.heap.size w w7) := B2.out.trans (bb.mono B2.out.size)
  have P4 : Hid (Bl w7 w6.heap.size 52 #[.int .i64 Q1, .int .i64 Q2, .int .i64 Q3, .int .i64 Q4]) := P3.out.later bb
  clear bb K28 B2 P3
  have c2 : w7.cell? ⟨w6.heap.size, 2, none⟩ = some (.int .i64 Q3) := P4.out.cell rfl
  have c3 : w7.cell? ⟨w6.heap.size, 3, none⟩ = some (.int .i64 Q4) := P4.out.cell rfl
  have nQ3 : (Q3 != Q3) = false := by simp
  have nQ4 : (Q4 != Q4) = false := by simp
  go_wp2_with (go_at_call 29; refine (K29.out _).mono ?_)
  first | rintro e w8 v8 rfl o8 bb | rintro e w8 ⟨v8, rfl, o8, bb⟩
  have B2 : Hid (Below w.heap.size w w8) := B.out.trans (bb.mono B.out.size)
  have O8 : Hid (w8.ownsRow w7.heap.size 9 1 v8 LA.length (strC LA)) := o8
  obtain ⟨l8, z8, e8, -⟩ := strs_read o8 HNL.out
  subst e8
  clear c2 c3 bb K29 B P4 o8 nQ3 nQ4
  go_wp2_with (go_at_call 30; refine (K30.out _).mono ?_)
  first | rintro e w9 v9 rfl o9 bb | rintro e w9 ⟨v9, rfl, o9, bb⟩
  have B : Hid (Below w.heap.size w w9) := B2.out.trans (bb.mono B2.out.size)
  have O8' : Hid (w9.ownsRow w7.heap.size 9 1 (.slice l8 nl z8) LA.length (strC LA)) := owns_below O8.out bb
  obtain ⟨l8', z8', e8, r8⟩ := strs_read O8'.out HNL.out
  cases e8
  obtain ⟨l9, z9, e9, r9⟩ := strs_read o9 HNL.out
  subst e9
  have R8 : Hid (0 < nl → ∃ g, l8 = some ⟨g, 0, none⟩ ∧ ∀ j (hj : j < LA.length), w9.cell? ⟨g, j, none⟩ = some (.string LA[j])) := r8
  have R9 : Hid (0 < nl → ∃ g, l9 = some ⟨g, 0, none⟩ ∧ ∀ j (hj : j < LA.length), w9.cell? ⟨g, j, none⟩ = some (.string LA[j])) := r9
  clear bb K30 B2 O8 O8' o9 r8 r9
  go_wp2_with fail
  go_loopw [120] (fun z wr => ∃ j : Nat, z = .int .i64 (j : Nat) ∧ j ≤ nl ∧ Hid (Below w9.heap.size w9 wr)) (fun z _ => nl - (RowKit.intOf z).toNat)
  case atStart => exact ⟨0, rfl, Nat.zero_le _, Below.refl _ _⟩
  case round =>
    obtain ⟨j, rfl, hj, hB⟩ := hrel
    by_cases hlt : j < nl
    · have hlti : (j : Int) < (nl : Int) := by omega
      have hn1 : ¬ nl ≤ j := by omega
      obtain ⟨g8, e8, q8⟩ := R8.out (by omega)
      obtain ⟨g9, e9, q9⟩ := R9.out (by omega)
      subst e8 e9
      have d8 := q8 j (by rw [HNL.out]; exact hlt)
      have d9 := q9 j (by rw [HNL.out]; exact hlt)
      replace d8 := (World.cell?_of_block (hB.out.block g8 (World.block_lt_of_cell? w9 _ d8))).trans d8
      replace d9 := (World.cell?_of_block (hB.out.block g9 (World.block_lt_of_cell? w9 _ d9))).trans d9
      obtain ⟨S, hS⟩ : ∃ S, LA[j]'(by rw [HNL.out]; exact hlt) = S := ⟨_, rfl⟩
      rw [hS] at d8 d9
      have nS : (S.toList != S.toList) = false := by simp
      clear hS q8 q9
      go_wp2_with fail
      go_quiet (fail)
      go_wp2
      refine ⟨⟨j + 1, ?_, ?_, below_drewN' hB.out _⟩, ?_⟩
      · go_num
      · omega
      · simp [RowKit.intOf]; omega
    · have hlti : ¬ (j : Int) < (nl : Int) := by omega
      have B3 : Hid (Below w.heap.size w wr) := B.out.trans (hB.out.mono B.out.size)
      clear hB R8 R9
      go_wp2
      go_ret
      exact ⟨rfl, B3.out⟩
end Go.Proofs.YtabofadjnbpjkabDoor
