/-
  The walk of the law PercentDecodes: it returns true and turns nothing that was there. Condition: the text has at most about a million bytes.
-/
import Derived.Test.YtoliiccmfmgmlaaSt
import Derived.Test.YtoliiccmfmgmlaaFd
namespace Go.Proofs.Ytoliiccmfmgmlaa
open Go.RowKit
theorem owns_slice {W : World} {b e size n : Nat} {v : Value} {xs : List Value} (h : W.ownsRow b e size v n xs) : ∃ a c, v = .slice a n c ∧ (0 < n → ∃ g, a = some ⟨g, 0, none⟩) := by
  obtain ⟨_, ⟨rfl, h0⟩ | ⟨g, cap, cur, rfl, _⟩⟩ := h
  · exact ⟨none, 0, by rw [h0], fun h => by omega⟩
  · exact ⟨_, _, rfl, fun _ => ⟨g, rfl⟩⟩
theorem owns_cell {W : World} {b e size n : Nat} {v : Value} {xs : List Value} (h : W.ownsRow b e size v n xs) {g cap : Nat} (hv : v = .slice (some ⟨g, 0, none⟩) n cap) (i : Nat) (u : Value) (hi : xs[i]? = some u) : W.cell? ⟨g, i, none⟩ = some u := by
  obtain ⟨h1, ⟨h2, _⟩ | ⟨g', cap', cur, rfl, h3, h4, h5, h6, h7, h8⟩⟩ := h
  · rw [h2] at hv; cases hv
  · cases hv
    have hl : i < n * size := by rw [← h1]; exact (List.getElem?_eq_some_iff.1 hi).1
    rw [← h8, List.getElem?_take_of_lt hl, Array.getElem?_toList] at hi
    simp [World.cell?, h4, hi]
/-- A list of the call's own reads as these numbers. -/
def Rds (w : World) (v : Value) (zs : List Int) : Prop :=
  ∃ a c, v = .slice a zs.length c ∧ (0 < zs.length → ∃ g, a = some ⟨g, 0, none⟩ ∧ ∀ j, j < zs.length → w.cell? ⟨g, j, none⟩ = some (.int .i64 (zs.getD j 0)))
theorem Rds.of_owns {w : World} {b : Nat} {v : Value} {zs : List Int} (h : w.ownsRow b 3 1 v zs.length (zs.map fun z => Value.int .i64 z)) : Rds w v zs := by
  obtain ⟨a, c, rfl, hn⟩ := owns_slice h
  refine ⟨a, c, rfl, fun hp => ?_⟩
  obtain ⟨g, rfl⟩ := hn hp
  exact ⟨g, rfl, fun j hj => owns_cell h rfl j _ (by simp [List.getD, List.getElem?_eq_getElem hj])⟩
set_option maxRecDepth 100000 in
set_option maxHeartbeats 1000000 in
theorem ints_any (zs : List Int) (v v' : Value) (w : World) (h1 : Rds w v zs) (h2 : Rds w v' zs) (hl : zs.length ≤ 140737488355328) :
    Calls Try.prog 12 #[v, v'] w fun e w' => e = .returned (.bool true) ∧ Below w.heap.size w w' := by
  obtain ⟨a1, c1, rfl, hn1⟩ := h1
  obtain ⟨a2, c2, rfl, hn2⟩ := h2
  go_enter Try.func12, Try.ntmps12
  go_wp2
  go_loopw [5] (fun i wr => ∃ (k m : Nat), i = .int .i64 k ∧ k ≤ zs.length ∧ wr = w.drewN m) (fun i _ => zs.length - (RowKit.intOf i).toNat)
  case atStart => exact ⟨0, 0, rfl, by omega, rfl⟩
  case round =>
    obtain ⟨k, m, rfl, hk, rfl⟩ := hrel
    by_cases hlt : k < zs.length
    · have hlti : (k : Int) < (zs.length : Int) := by omega
      obtain ⟨g1, rfl, d1⟩ := hn1 (by omega)
      obtain ⟨g2, rfl, d2⟩ := hn2 (by omega)
      have d1 := d1 k hlt
      have d2 := d2 k hlt
      obtain ⟨z, hz⟩ : ∃ z, zs.getD k 0 = z := ⟨_, rfl⟩
      rw [hz] at d1 d2
      clear hz hn1 hn2
      go_wp2
      go_quiet (fail)
      go_wp2
      exact ⟨⟨k + 1, _, by go_num, by omega, rfl⟩, by simp [RowKit.intOf]; omega⟩
    · have hlti : ¬ (k : Int) < (zs.length : Int) := by omega
      go_wp2
      go_ret
      exact ⟨rfl, rfl, rfl, rfl, Nat.le_refl _, fun _ _ => rfl⟩
theorem strict_cases (s : ByteArray) : ∀ l : List Nat, (strs s l = [] ∧ strictA s l = .tuple #[.string (decB s), .int .i64 0, .int .i64 0]) ∨ ∃ (k : Nat) (r : List Int), strs s l = (k : Int) :: r ∧ strictA s l = .tuple #[.string ⟨#[]⟩, .int .i64 k, .int .i64 30]
  | [] => .inl ⟨rfl, rfl⟩
  | k :: l => by
    cases h : sr s k
    · rw [strictA, if_neg (by rw [h]; decide)]
      have e : strs s (k :: l) = strs s l := by simp [strs, h]
      rw [e]
      exact strict_cases s l
    · rw [strictA, if_pos h]
      exact .inr ⟨k, strs s l, by simp [strs, h], rfl⟩
set_option maxRecDepth 100000 in
set_option maxHeartbeats 2000000 in
theorem lawP (s : ByteArray) (w : World) (hs : s.size ≤ 1048576) : Calls Try.prog 3 #[.string s] w fun e w' => e = .returned (.bool true) ∧ Below w.heap.size w w' := by
  have hl := poss_len s
  have hsl := strs_len s (poss s)
  have hc : cnt s (poss s) ≤ (poss s).length := List.length_filter_le _ _
  have k7 := rdecode_any s w (by omega)
  have k8 := fun wa => strict_any s wa (by omega)
  have k9 := fun wa => awake_any wa
  have k10 := fun wa => decode_any s wa (by omega)
  have k11 := fun wa => codedN_any s wa (by omega)
  have k13 := fun wa => strays_any s wa (by omega)
  have k12 := fun v v' wa h1 h2 => ints_any (strs s (poss s)) v v' wa h1 h2 (by omega)
  have hcase := strict_cases s (poss s)
  obtain ⟨M, hM⟩ : ∃ M, decB s = M := ⟨_, rfl⟩
  obtain ⟨C, hC⟩ : ∃ C, cnt s (poss s) = C := ⟨_, rfl⟩
  rw [hM] at k7 k10 hcase; rw [hC] at k7 k11 hc
  clear hM hC
  have K12 : Hid _ := k12
  have K13 : Hid _ := k13
  clear k12 k13
  have main : ∀ (A : Value) (at0 : Int) (G : ByteArray) (E : Int), (∀ wa, Calls Try.prog 8 #[.string s] wa fun e W' => e = .returned (.tuple #[.string G, .int .i64 at0, .int .i64 E]) ∧ Below wa.heap.size wa W') →
      ((strs s (poss s) = [] ∧ G = M ∧ at0 = 0 ∧ E = 0) ∨ ∃ r, strs s (poss s) = at0 :: r ∧ G = ⟨#[]⟩ ∧ E = 30) → Calls Try.prog 3 #[.string s] w fun e w' => e = .returned (.bool true) ∧ Below w.heap.size w w' := by
    intro A at0 G E k8 hc2
    have HC2 : Hid _ := hc2
    clear hc2 hcase
    go_enter Try.func3, Try.ntmps3
    go_wp2_with (go_at_call 7; refine k7.mono ?_)
    first | rintro e w1 v1 rfl o1 b1 | rintro e w1 ⟨v1, rfl, o1, b1⟩
    obtain ⟨a1, c1, rfl, _⟩ := owns_slice o1
    have O1 : Hid (w1.ownsRow w.heap.size 3 1 (.slice a1 (strs s (poss s)).length c1) (strs s (poss s)).length ((strs s (poss s)).map fun z => Value.int .i64 z) ∧ Below w.heap.size w w1) := ⟨o1, b1⟩
    clear o1 b1 k7
    go_wp2_with (go_at_call 8; refine (k8 _).mono ?_)
    first | rintro e w2 rfl b2 | rintro e w2 ⟨rfl, b2⟩
    have O2 : Hid (w2.ownsRow w.heap.size 3 1 (.slice a1 (strs s (poss s)).length c1) (strs s (poss s)).length ((strs s (poss s)).map fun z => Value.int .i64 z) ∧ Below w.heap.size w w2) := ⟨owns_below O1.out.1 b2, O1.out.2.trans (b2.mono O1.out.2.size)⟩
    clear b2 O1
    go_wp2_with (go_at_call 9; refine (k9 _).mono ?_)
    first | rintro e w3 rfl b3 | rintro e w3 ⟨rfl, b3⟩
    have O3 : Hid (w3.ownsRow w.heap.size 3 1 (.slice a1 (strs s (poss s)).length c1) (strs s (poss s)).length ((strs s (poss s)).map fun z => Value.int .i64 z) ∧ Below w.heap.size w w3) := ⟨owns_below O2.out.1 b3, O2.out.2.trans (b3.mono O2.out.2.size)⟩
    clear b3 O2
    go_wp2_with (go_at_call 10; refine (k10 _).mono ?_)
    first | rintro e w4 rfl b4 | rintro e w4 ⟨rfl, b4⟩
    have O4 : Hid (w4.ownsRow w.heap.size 3 1 (.slice a1 (strs s (poss s)).length c1) (strs s (poss s)).length ((strs s (poss s)).map fun z => Value.int .i64 z) ∧ Below w.heap.size w w4) := ⟨owns_below O3.out.1 b4, O3.out.2.trans (b4.mono O3.out.2.size)⟩
    clear b4 O3
    go_wp2_with (go_at_call 11; refine (k11 _).mono ?_)
    first | rintro e w5 rfl b5 | rintro e w5 ⟨rfl, b5⟩
    have O5 : Hid (w5.ownsRow w.heap.size 3 1 (.slice a1 (strs s (poss s)).length c1) (strs s (poss s)).length ((strs s (poss s)).map fun z => Value.int .i64 z) ∧ Below w.heap.size w w5) := ⟨owns_below O4.out.1 b5, O4.out.2.trans (b5.mono O4.out.2.size)⟩
    clear b5 O4
    go_wp2_with (go_at_call 13; refine (K13.out _).mono ?_)
    first | rintro e w6 v6 rfl o6 b6 | rintro e w6 ⟨v6, rfl, o6, b6⟩
    have O6 : Hid (w6.ownsRow w.heap.size 3 1 (.slice a1 (strs s (poss s)).length c1) (strs s (poss s)).length ((strs s (poss s)).map fun z => Value.int .i64 z) ∧ Below w.heap.size w w6) := ⟨owns_below O5.out.1 b6, O5.out.2.trans (b6.mono O5.out.2.size)⟩
    have k12 := K12.out v6 (.slice a1 (strs s (poss s)).length c1) w6 (Rds.of_owns o6) (Rds.of_owns O6.out.1)
    clear b6 O5 o6
    go_wp2_with (go_at_call 12; refine k12.mono ?_)
    first | rintro e w7 rfl b7 | rintro e w7 ⟨rfl, b7⟩
    have O7 : Hid (w7.ownsRow w.heap.size 3 1 (.slice a1 (strs s (poss s)).length c1) (strs s (poss s)).length ((strs s (poss s)).map fun z => Value.int .i64 z) ∧ Below w.heap.size w w7) := ⟨owns_below O6.out.1 b7, O6.out.2.trans (b7.mono O6.out.2.size)⟩
    clear b7 O6 k12
    rcases HC2.out with ⟨e0, rfl, rfl, rfl⟩ | ⟨r, e0, rfl, rfl⟩
    · rw [e0] at O7 ⊢
      clear HC2 e0
      go_wp2
      go_ret
      exact ⟨rfl, O7.out.2⟩
    · have hR := Rds.of_owns O7.out.1
      have hlr : (strs s (poss s)).length = r.length + 1 := by rw [e0]; simp
      obtain ⟨a, c, ea, hg⟩ := hR
      cases ea
      obtain ⟨g, rfl, hcell⟩ := hg (by omega)
      have hc0 := hcell 0 (by omega)
      rw [e0] at hc0
      simp only [List.getD_cons_zero] at hc0
      rw [hlr]
      have hgt : decide ((0 : Int) < ((r.length + 1 : Nat) : Int)) = true := decide_eq_true (by omega)
      have hgi : (0 : Int) < ((r.length + 1 : Nat) : Int) := by omega
      clear HC2 e0 hcell hlr hg
      go_wp2
      go_ret
      exact ⟨rfl, O7.out.2⟩
  rcases hcase with ⟨e1, e2⟩ | ⟨k, r, e1, e2⟩
  · rw [e2] at k8
    exact main undef 0 M 0 k8 (.inl ⟨e1, rfl, rfl, rfl⟩)
  · rw [e2] at k8
    exact main undef k ⟨#[]⟩ 30 k8 (.inr ⟨r, e1, rfl, rfl⟩)
end Go.Proofs.Ytoliiccmfmgmlaa
