/-
  The walk of the law ScalarDecodes: it returns true and turns nothing that was there. Conditions: the text's pieces take no more bytes than a list can; the library's two tables hold what their text lays.
-/
import Derived.Test.YtabofadjnbpjkaaDoorVal
import Derived.Test.YtabofadjnbpjkaaDoorWr
import Derived.Test.YtabofadjnbpjkaaDoorSame
namespace Go.Proofs.YtabofadjnbpjkaaDoor
open Go.RowKit Go.Lib
theorem wrongOf_snoc (s : ByteArray) (q : Nat) : ∀ l : List Nat, wrongOf s (l ++ [q]) = if wrongOf s l < 0 ∧ pWr s q = true then (q : Int) else wrongOf s l
  | [] => by
    cases h : pWr s q <;> simp [wrongOf, h]
  | a :: l => by
    cases h : pWr s a
    · simp only [List.cons_append, wrongOf, h]
      exact wrongOf_snoc s q l
    · have : ¬ (a : Int) < 0 := by omega
      simp [wrongOf, h, this]
set_option maxRecDepth 100000 in
set_option maxHeartbeats 2000000 in
theorem lawD (s : ByteArray) (w : World) (hs : s.size ≤ 5864062010000) (hT : Utf8Tabs 0 1 w) (hg : 2 ≤ w.heap.size) : Calls Tryd.prog 4 #[.string s] w fun e w' => e = .returned (.bool true) ∧ Below w.heap.size w w' := by
  have hlen : (poss s).length ≤ s.size := posAt_len s s.size 0 (by omega)
  have k0 := awake_any w hT hg
  go_enter Tryd.func4, Tryd.ntmps4
  go_wp2_with fail
  refine k0.mono ?_
  rintro e w1 ⟨rfl, b1⟩
  have T1 := tabs_below hT (by omega) b1
  have z1 := b1.size
  have k1 := decode_any s w1 (by omega) T1 (by omega)
  clear k0
  go_wp2_with (go_at_call 15; refine k1.mono ?_)
  rintro e w2 ⟨v2, rfl, o2, b2⟩
  have z2 := b2.size
  have O2 : Hid _ := o2
  clear o2 k1
  go_wp2_with (go_at_call 16; refine (rdecode_any s w2 (by omega)).mono ?_)
  rintro e w3 ⟨v3, rfl, o3, b3⟩
  have z3 := b3.size
  have k3 := same_any s (poss s) _ _ v2 v3 w3 (owns_below O2.out b3) o3 (by omega)
  clear O2 o3
  go_wp2_with (go_at_call 14; refine k3.mono ?_)
  rintro e w4 ⟨rfl, b4⟩
  have z4 := b4.size
  clear k3
  have B4 : Below w.heap.size w w4 := ((b1.trans (b2.mono z1)).trans (b3.mono (by omega))).trans (b4.mono (by omega))
  have T4 := tabs_below hT (by omega) B4
  clear b1 b2 b3 b4 T1
  have k4 := pieces_any s w4 (by omega) T4 (by omega)
  go_wp2_with (go_at_call 17; refine k4.mono ?_)
  rintro e w5 ⟨v5, rfl, o5, b5⟩
  have z5 := b5.size
  obtain ⟨a5, c5, rfl, hn5⟩ := owns_slice o5
  have O5 : Hid _ := o5
  clear o5 k4
  go_wp2_with (go_at_call 18; refine (rpieces_any s w5 (by omega)).mono ?_)
  rintro e w6 ⟨v6, rfl, o6, b6⟩
  have z6 := b6.size
  obtain ⟨a6, c6, rfl, hn6⟩ := owns_slice o6
  have o5 := owns_below O5.out b6
  have B6 : Below w.heap.size w w6 := (B4.trans (b5.mono (by omega))).trans (b6.mono (by omega))
  have O5' : Hid (w6.ownsRow w4.heap.size 34 4 (.slice a5 (poss s).length c5) (poss s).length (pcsC s (poss s))) := o5
  have O6' : Hid (w6.ownsRow w5.heap.size 35 4 (.slice a6 (poss s).length c6) (poss s).length (pcsC s (poss s))) := o6
  have HB6 : Hid (Below w.heap.size w w6) := B6
  clear O5 o5 o6 b5 b6 T4 B6 B4
  have hnq : (((poss s).length : Int) == ((poss s).length : Int)) = true := beq_self_eq_true _
  go_wp2_with fail
  clear hnq
  go_loopw [5, 28] (fun u i wr => ∃ (k : Nat), i = .int .i64 k ∧ k ≤ (poss s).length ∧ u = .int .i64 (wrongOf s ((poss s).take k)) ∧ Below w6.heap.size w6 wr) (fun _ i _ => (poss s).length - (RowKit.intOf i).toNat)
  case atStart => exact ⟨0, rfl, by omega, rfl, Below.refl _ _⟩
  case round =>
    obtain ⟨k, rfl, hk, rfl, hb⟩ := hrel
    by_cases hlt : k < (poss s).length
    · have hlti : (k : Int) < ((poss s).length : Int) := by omega
      obtain ⟨g5, rfl⟩ := hn5 (by omega)
      obtain ⟨g6, rfl⟩ := hn6 (by omega)
      have p5 := owns_below O5'.out hb
      have p6 := owns_below O6'.out hb
      have hq : (poss s)[k]? = some (poss s)[k] := List.getElem?_eq_getElem hlt
      obtain ⟨q, hq0⟩ : ∃ q, (poss s)[k] = q := ⟨_, rfl⟩
      rw [hq0] at hq
      have d0 : wr.cell? ⟨g5, k * 4, none⟩ = some (.int .i64 q) := owns_cell p5 rfl _ _ ((pcsC_at s 0 (by omega) _ _ _ hq).trans rfl)
      have d1 : wr.cell? ⟨g5, k * 4 + 1, none⟩ = some (.int .i64 (pSt s q)) := owns_cell p5 rfl _ _ ((pcsC_at s 1 (by omega) _ _ _ hq).trans rfl)
      have d2 : wr.cell? ⟨g5, k * 4 + 2, none⟩ = some (.int .i32 (pRu s q)) := owns_cell p5 rfl _ _ ((pcsC_at s 2 (by omega) _ _ _ hq).trans rfl)
      have d3 : wr.cell? ⟨g5, k * 4 + 3, none⟩ = some (.bool (pWr s q)) := owns_cell p5 rfl _ _ ((pcsC_at s 3 (by omega) _ _ _ hq).trans rfl)
      have e0 : wr.cell? ⟨g6, k * 4, none⟩ = some (.int .i64 q) := owns_cell p6 rfl _ _ ((pcsC_at s 0 (by omega) _ _ _ hq).trans rfl)
      have e1 : wr.cell? ⟨g6, k * 4 + 1, none⟩ = some (.int .i64 (pSt s q)) := owns_cell p6 rfl _ _ ((pcsC_at s 1 (by omega) _ _ _ hq).trans rfl)
      have e2 : wr.cell? ⟨g6, k * 4 + 2, none⟩ = some (.int .i32 (pRu s q)) := owns_cell p6 rfl _ _ ((pcsC_at s 2 (by omega) _ _ _ hq).trans rfl)
      have e3 : wr.cell? ⟨g6, k * 4 + 3, none⟩ = some (.bool (pWr s q)) := owns_cell p6 rfl _ _ ((pcsC_at s 3 (by omega) _ _ _ hq).trans rfl)
      have HS : Hid (wrongOf s ((poss s).take (k + 1)) = if wrongOf s ((poss s).take k) < 0 ∧ pWr s q = true then (q : Int) else wrongOf s ((poss s).take k)) := by
        unfold Hid
        rw [← wrongOf_snoc, List.take_add_one, hq]
        rfl
      have hg6 : g6 < wr.heap.size := by
        obtain ⟨_, ⟨h, _⟩ | ⟨g, cap, cur, h, _, h4, _⟩⟩ := p6
        · cases h
        · cases h; exact (Array.getElem?_eq_some_iff.1 h4).1
      have HB : Hid (Below w6.heap.size w6 wr) := hb
      obtain ⟨z, hz⟩ : ∃ z, wrongOf s ((poss s).take k) = z := ⟨_, rfl⟩
      rw [hz] at HS ⊢
      clear p5 p6 hq hq0 hb hz
      go_wp2_with fail
      go_region_with (go_at_call 19; refine (piece_same _ _ _ _ _).mono ?_; rintro e w' ⟨rfl, hb7⟩)
      all_goals
        have hs7 := hb7.size
        have hb8 : Below w6.heap.size w6 w' := (below_drewN HB.out _).trans (hb7.mono (by have := HB.out.size; simp; omega))
        have f0 : w'.cell? ⟨g6, k * 4, none⟩ = some (.int .i64 q) := (hb7.cell (p := ⟨g6, k * 4, none⟩) (by simp; omega)).trans (by simpa using e0)
        have f3 : w'.cell? ⟨g6, k * 4 + 3, none⟩ = some (.bool (pWr s q)) := (hb7.cell (p := ⟨g6, k * 4 + 3, none⟩) (by simp; omega)).trans (by simpa using e3)
        clear d0 d1 d2 d3 e0 e1 e2 e3 hb7 hs7
        by_cases hzn : z < 0
        · have dz : decide (z < 0) = true := by simp [hzn]
          cases hw : pWr s q
          · rw [hw] at f3
            go_wp2
            exact ⟨⟨k + 1, by go_num, by omega, by rw [HS.out, if_neg (by simp [hw])], hb8⟩, by simp [RowKit.intOf]; omega⟩
          · rw [hw] at f3
            go_wp2
            exact ⟨⟨k + 1, by go_num, by omega, by rw [HS.out, if_pos ⟨hzn, hw⟩], hb8⟩, by simp [RowKit.intOf]; omega⟩
        · have dz : decide (z < 0) = false := by simp; omega
          go_wp2
          exact ⟨⟨k + 1, by go_num, by omega, by rw [HS.out, if_neg (by omega)], hb8⟩, by simp [RowKit.intOf]; omega⟩
    · have hlti : ¬ (k : Int) < ((poss s).length : Int) := by omega
      have e : k = (poss s).length := by omega
      subst e
      rw [List.take_length]
      have bw := HB6.out.trans (hb.mono (by have := HB6.out.size; omega))
      have kw := wrong_any s wr (by omega) (tabs_below hT (by omega) bw) (by have := bw.size; omega)
      obtain ⟨z, hz⟩ : ∃ z, wrongOf s (poss s) = z := ⟨_, rfl⟩
      rw [hz] at kw ⊢
      clear hz hb
      have hzz : (z == z) = true := beq_self_eq_true _
      go_wp2_with (go_at_call 20; refine kw.mono ?_; rintro e w7 ⟨rfl, hb7⟩)
      go_ret
      exact ⟨rfl, bw.trans (hb7.mono bw.size)⟩
end Go.Proofs.YtabofadjnbpjkaaDoor
