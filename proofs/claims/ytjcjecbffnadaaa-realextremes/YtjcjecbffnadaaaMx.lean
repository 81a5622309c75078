/-
  Slices that are read; the contracts of Minimum, Maximum and Least. Conditions: the floats' bits fit; a list takes no more bytes than there are.
-/
import Derived.Test.YtjcjecbffnadaaaCt
import Derived.Test.YtjcjecbffnadaaaKs
import Derived.Test.YtjcjecbffnadaaaRq
import Derived.Deep.LoopGhost
import Derived.OwnWalk
namespace Go.Proofs.Ytjcjecbffnadaaa
open Go.RowKit
/-- A slice that reads as these cells. -/
def Rd (w : World) (v : Value) (cs : List Value) : Prop :=
  ∃ a c, v = .slice a cs.length c ∧ (0 < cs.length → ∃ g off, a = some ⟨g, off, none⟩ ∧ ∀ j, j < cs.length → w.cell? ⟨g, off + j, none⟩ = some (cs.getD j undef))
theorem Rd.below {w w' : World} {v : Value} {cs : List Value} (h : Rd w v cs) (hb : Below w.heap.size w w') : Rd w' v cs := by
  obtain ⟨a, c, rfl, hc⟩ := h
  refine ⟨a, c, rfl, fun hp => ?_⟩
  obtain ⟨g, off, rfl, hd⟩ := hc hp
  refine ⟨g, off, rfl, fun j hj => ?_⟩
  have := World.block_lt_of_cell? w _ (hd j hj)
  exact (hb.cell (p := ⟨g, off + j, none⟩) (by simpa using this)).trans (hd j hj)
theorem owns_slice {W : World} {b e size n : Nat} {v : Value} {xs : List Value} (h : W.ownsRow b e size v n xs) : ∃ a c, v = .slice a n c ∧ (0 < n → ∃ g, a = some ⟨g, 0, none⟩) := by
  obtain ⟨_, ⟨rfl, h0⟩ | ⟨g, cap, cur, rfl, _⟩⟩ := h
  · exact ⟨none, 0, by rw [h0], fun h => by omega⟩
  · exact ⟨_, _, rfl, fun _ => ⟨g, rfl⟩⟩
theorem owns_cell {W : World} {b e size n : Nat} {v : Value} {xs : List Value} (h : W.ownsRow b e size v n xs) {g cap : Nat} (hv : v = .slice (some ⟨g, 0, none⟩) n cap) (i : Nat) (u : Value) (hi : xs[i]? = some u) : W.cell? ⟨g, i, none⟩ = some u := by
  obtain ⟨h1, ⟨h2, _⟩ | ⟨g', cap', cur, rfl, h3, h4, h5, h6, h7, h8⟩⟩ := h
  · rw [h2] at hv; cases hv
  · cases hv
    have hl : i < n * size := by rw [← h1]; exact (List.getElem?_eq_some_iff.1 hi).1
    rw [← h8, List.getElem?_take_of_lt hl, Array.getElem?_toList] at hi
    simp [World.cell?, h4, hi]
theorem owns_below {W W' : World} {b e size n : Nat} {v : Value} {xs : List Value} (h : W.ownsRow b e size v n xs) (hb : Below W.heap.size W W') : W'.ownsRow b e size v n xs := by
  obtain ⟨h1, h2 | ⟨g, cap, cur, rfl, h3, h4, h5⟩⟩ := h
  · exact ⟨h1, .inl h2⟩
  · exact ⟨h1, .inr ⟨g, cap, cur, rfl, h3, (hb.block g (Array.getElem?_eq_some_iff.1 h4).1).trans h4, h5⟩⟩
theorem Rd.of_owns {w : World} {b e : Nat} {v : Value} {cs : List Value} (h : w.ownsRow b e 1 v cs.length cs) : Rd w v cs := by
  obtain ⟨a, c, rfl, hn⟩ := owns_slice h
  refine ⟨a, c, rfl, fun hp => ?_⟩
  obtain ⟨g, rfl⟩ := hn hp
  refine ⟨g, 0, rfl, fun j hj => ?_⟩
  rw [Nat.zero_add]
  exact owns_cell h rfl j _ (by simp [List.getD, List.getElem?_eq_getElem hj])
theorem sgnc_le (x y : Int) : (sgnc x y ≤ 0 ↔ x ≤ y) ∧ (0 ≤ sgnc x y ↔ y ≤ x) := by
  unfold sgnc
  by_cases h1 : x < y
  · rw [if_pos h1]; omega
  · rw [if_neg h1]
    by_cases h2 : y < x
    · rw [if_pos h2]; omega
    · rw [if_neg h2]; omega
/-- The bits of the lesser, of the greater one. -/
def minB (x y : Nat) : Nat := if (nan64 x || nan64 y) = true then 9221120237041090560 else if key64 x ≤ key64 y then x else y
def maxB (x y : Nat) : Nat := if (nan64 x || nan64 y) = true then 9221120237041090560 else if key64 y ≤ key64 x then x else y
set_option maxRecDepth 100000 in
set_option maxHeartbeats 2000000 in
theorem cnone_any (w : World) : Calls Try.prog 51 #[] w fun e w' => e = .returned (.float .f64 9221120237041090560) ∧ Below w.heap.size w w' := by
  have k50 : ∀ w, Calls Try.prog 53 #[.agg #[.int .i64 4, .bool false, .int .u64 0, .int .i64 0, .bool false, .int .u64 0]] w fun e w' => e = .returned (.float .f64 9221120237041090560) ∧ Below w.heap.size w w' := fun w => number_any ⟨4, false, 0, 0, false, 0⟩ w (by decide) (by decide) (by decide)
  have bl : ∀ w, (Instr.build 30 #[(0, .int .i64 4)]).run Try.prog w = .ok (.agg #[.int .i64 4, .bool false, .int .u64 0, .int .i64 0, .bool false, .int .u64 0]) w := fun _ => by kernel_rfl
  go_enter Try.func51, Try.ntmps51
  go_wp2_with (go_at_call 53; refine (k50 _).mono ?_)
  intro e1 w1 hq
  first | (obtain ⟨rfl, b1⟩ : _ ∧ _ := hq) | (subst hq; intro b1)
  have B1 : Hid (Below w.heap.size w w1) := b1
  clear b1
  go_wp2
  go_ret
  exact ⟨rfl, B1.out⟩
set_option maxRecDepth 100000 in
set_option maxHeartbeats 2000000 in
theorem min_any (x y : Nat) (w : World) (hx : x < 18446744073709551616) (hy : y < 18446744073709551616) : Calls Try.prog 33 #[.float .f64 x, .float .f64 y] w fun e w' => e = .returned (.float .f64 (minB x y)) ∧ Below w.heap.size w w' := by
  have k1 := fun w => nan_any x w
  have k2 := fun w => nan_any y w
  have k3 := cnone_any
  have k4 := fun w => order_any x y w hx hy
  unfold minB
  cases h1 : nan64 x
  · cases h2 : nan64 y
    · rw [h1] at k1
      rw [h2] at k2
      rw [if_neg (by decide)]
      by_cases c : key64 x ≤ key64 y
      · rw [if_pos c]
        have hc : sgnc (key64 x) (key64 y) ≤ 0 := by have := sgnc_le (key64 x) (key64 y); omega
        generalize sgnc (key64 x) (key64 y) = s at *
        clear c h1 h2
        go_enter Try.func33, Try.ntmps33
        go_wp2_with (first | (go_at_call 46; refine (k1 _).mono ?_; rintro e w' ⟨rfl, rfl⟩) | (go_at_call 46; refine (k2 _).mono ?_; rintro e w' ⟨rfl, rfl⟩) | (go_at_call 31; refine (k4 _).mono ?_))
        intro e1 w1 hq
        first | (obtain ⟨rfl, b1⟩ : _ ∧ _ := hq) | (subst hq; intro b1)
        have B1 : Hid (Below _ _ w1) := b1
        clear b1
        go_wp2
        go_ret
        exact ⟨rfl, B1.out⟩
      · rw [if_neg c]
        have hc : 0 < sgnc (key64 x) (key64 y) := by have := sgnc_le (key64 x) (key64 y); omega
        generalize sgnc (key64 x) (key64 y) = s at *
        clear c h1 h2
        go_enter Try.func33, Try.ntmps33
        go_wp2_with (first | (go_at_call 46; refine (k1 _).mono ?_; rintro e w' ⟨rfl, rfl⟩) | (go_at_call 46; refine (k2 _).mono ?_; rintro e w' ⟨rfl, rfl⟩) | (go_at_call 31; refine (k4 _).mono ?_))
        intro e1 w1 hq
        first | (obtain ⟨rfl, b1⟩ : _ ∧ _ := hq) | (subst hq; intro b1)
        have B1 : Hid (Below _ _ w1) := b1
        clear b1
        go_wp2
        go_ret
        exact ⟨rfl, B1.out⟩
    · rw [h1] at k1
      rw [h2] at k2
      rw [if_pos (by decide)]
      go_enter Try.func33, Try.ntmps33
      go_wp2_with (first | (go_at_call 46; refine (k1 _).mono ?_; rintro e w' ⟨rfl, rfl⟩) | (go_at_call 46; refine (k2 _).mono ?_; rintro e w' ⟨rfl, rfl⟩) | (go_at_call 51; refine (k3 _).mono ?_))
      intro e1 w1 hq
      first | (obtain ⟨rfl, b1⟩ : _ ∧ _ := hq) | (subst hq; intro b1)
      have B1 : Hid (Below _ _ w1) := b1
      clear b1
      go_wp2
      go_ret
      exact ⟨rfl, B1.out⟩
  · rw [h1] at k1
    rw [if_pos (by simp)]
    go_enter Try.func33, Try.ntmps33
    go_wp2_with (first | (go_at_call 46; refine (k1 _).mono ?_; rintro e w' ⟨rfl, rfl⟩) | (go_at_call 51; refine (k3 _).mono ?_))
    intro e1 w1 hq
    first | (obtain ⟨rfl, b1⟩ : _ ∧ _ := hq) | (subst hq; intro b1)
    have B1 : Hid (Below _ _ w1) := b1
    clear b1
    go_wp2
    go_ret
    exact ⟨rfl, B1.out⟩
set_option maxRecDepth 100000 in
set_option maxHeartbeats 2000000 in
theorem max_any (x y : Nat) (w : World) (hx : x < 18446744073709551616) (hy : y < 18446744073709551616) : Calls Try.prog 34 #[.float .f64 x, .float .f64 y] w fun e w' => e = .returned (.float .f64 (maxB x y)) ∧ Below w.heap.size w w' := by
  have k1 := fun w => nan_any x w
  have k2 := fun w => nan_any y w
  have k3 := cnone_any
  have k4 := fun w => order_any x y w hx hy
  unfold maxB
  cases h1 : nan64 x
  · cases h2 : nan64 y
    · rw [h1] at k1
      rw [h2] at k2
      rw [if_neg (by decide)]
      by_cases c : key64 y ≤ key64 x
      · rw [if_pos c]
        have hc : 0 ≤ sgnc (key64 x) (key64 y) := by have := sgnc_le (key64 x) (key64 y); omega
        generalize sgnc (key64 x) (key64 y) = s at *
        clear c h1 h2
        go_enter Try.func34, Try.ntmps34
        go_wp2_with (first | (go_at_call 46; refine (k1 _).mono ?_; rintro e w' ⟨rfl, rfl⟩) | (go_at_call 46; refine (k2 _).mono ?_; rintro e w' ⟨rfl, rfl⟩) | (go_at_call 31; refine (k4 _).mono ?_))
        intro e1 w1 hq
        first | (obtain ⟨rfl, b1⟩ : _ ∧ _ := hq) | (subst hq; intro b1)
        have B1 : Hid (Below _ _ w1) := b1
        clear b1
        go_wp2
        go_ret
        exact ⟨rfl, B1.out⟩
      · rw [if_neg c]
        have hc : sgnc (key64 x) (key64 y) < 0 := by have := sgnc_le (key64 x) (key64 y); omega
        generalize sgnc (key64 x) (key64 y) = s at *
        clear c h1 h2
        go_enter Try.func34, Try.ntmps34
        go_wp2_with (first | (go_at_call 46; refine (k1 _).mono ?_; rintro e w' ⟨rfl, rfl⟩) | (go_at_call 46; refine (k2 _).mono ?_; rintro e w' ⟨rfl, rfl⟩) | (go_at_call 31; refine (k4 _).mono ?_))
        intro e1 w1 hq
        first | (obtain ⟨rfl, b1⟩ : _ ∧ _ := hq) | (subst hq; intro b1)
        have B1 : Hid (Below _ _ w1) := b1
        clear b1
        go_wp2
        go_ret
        exact ⟨rfl, B1.out⟩
    · rw [h1] at k1
      rw [h2] at k2
      rw [if_pos (by decide)]
      go_enter Try.func34, Try.ntmps34
      go_wp2_with (first | (go_at_call 46; refine (k1 _).mono ?_; rintro e w' ⟨rfl, rfl⟩) | (go_at_call 46; refine (k2 _).mono ?_; rintro e w' ⟨rfl, rfl⟩) | (go_at_call 51; refine (k3 _).mono ?_))
      intro e1 w1 hq
      first | (obtain ⟨rfl, b1⟩ : _ ∧ _ := hq) | (subst hq; intro b1)
      have B1 : Hid (Below _ _ w1) := b1
      clear b1
      go_wp2
      go_ret
      exact ⟨rfl, B1.out⟩
  · rw [h1] at k1
    rw [if_pos (by simp)]
    go_enter Try.func34, Try.ntmps34
    go_wp2_with (first | (go_at_call 46; refine (k1 _).mono ?_; rintro e w' ⟨rfl, rfl⟩) | (go_at_call 51; refine (k3 _).mono ?_))
    intro e1 w1 hq
    first | (obtain ⟨rfl, b1⟩ : _ ∧ _ := hq) | (subst hq; intro b1)
    have B1 : Hid (Below _ _ w1) := b1
    clear b1
    go_wp2
    go_ret
    exact ⟨rfl, B1.out⟩
/-- The least of the first one and so many more, and its place. -/
def lsK (first : Nat) (bs : List Nat) : Nat → Nat × Nat
  | 0 => (first, 0)
  | k + 1 => if key64 (bs.getD k 0) < key64 (lsK first bs k).1 then (bs.getD k 0, k + 1) else lsK first bs k
theorem lsK_lt {first : Nat} {bs : List Nat} (h0 : first < 18446744073709551616) (h : ∀ b ∈ bs, b < 18446744073709551616) : ∀ k, (lsK first bs k).1 < 18446744073709551616 ∧ (lsK first bs k).2 ≤ k
  | 0 => ⟨h0, Nat.le_refl _⟩
  | k + 1 => by
    obtain ⟨a, b⟩ := lsK_lt h0 h k
    unfold lsK
    split
    · refine ⟨?_, Nat.le_refl _⟩
      by_cases c : k < bs.length
      · exact h _ (by simp [List.getD, List.getElem?_eq_getElem c])
      · simp [List.getD, List.getElem?_eq_none (by omega : bs.length ≤ k)]
    · exact ⟨a, by omega⟩
noncomputable def body35 : Code := Try.f35.body.getD .skip
set_option maxRecDepth 100000 in
set_option maxHeartbeats 2000000 in
theorem least_a {Q : Ending → World → Prop} (x : Nat) (bs : List Nat) (v : Value) (w : World) (hx : x < 18446744073709551616) (hbs : ∀ b ∈ bs, b < 18446744073709551616) (hl : bs.length ≤ 140737488355328) (hr : Rd w v (bs.map fun b => Value.float .f64 b))
    (hK : Hid (∀ a w', Below w.heap.size w w' → At 28 [(6, .float .f64 (lsK x bs bs.length).1), (7, .int .i64 ((lsK x bs bs.length).2 : Nat))] a → Code.wp Try.prog (sq 3 body35) (bodyPost Try.prog Try.f35 Q) a w')) : Calls Try.prog 35 #[.float .f64 x, v] w Q := by
  have HR : Hid (Rd w v (bs.map fun b => Value.float .f64 b)) := hr
  obtain ⟨a0, c0, rfl, hn⟩ := hr
  have hlm : (bs.map fun b => Value.float .f64 b).length = bs.length := List.length_map _
  rw [hlm] at hn HR ⊢
  have HN := show Hid (0 < bs.length → ∃ g off, a0 = some ⟨g, off, none⟩ ∧ ∀ j, j < bs.length → w.cell? ⟨g, off + j, none⟩ = some ((bs.map fun b => Value.float .f64 b).getD j undef)) from hn
  clear hn hlm
  go_enter Try.func35, Try.ntmps35
  change Code.wp _ (Code.seq (hd (sq 0 body35)) (Code.seq (hd (sq 1 body35)) (Code.seq (hd (sq 2 body35)) (sq 3 body35)))) _ _ _
  generalize sq 3 body35 = REST at hK ⊢
  conv => arg 2; arg 1; whnf
  conv => arg 2; arg 2; arg 1; whnf
  conv => arg 2; arg 2; arg 2; arg 1; whnf
  go_wp2
  refine wp_loop_ghost_k (fun m a w' => ∃ k : Nat, k ≤ bs.length ∧ m = bs.length - k ∧ At 28 [(6, .float .f64 (lsK x bs k).1), (7, .int .i64 ((lsK x bs k).2 : Nat)), (11, .slice a0 bs.length c0), (12, .int .i64 (bs.length : Nat)), (13, .int .i64 (k : Nat))] a ∧ Below w.heap.size w w') bs.length ⟨0, Nat.zero_le _, rfl, ⟨rfl, rfl, rfl, rfl, rfl, rfl, rfl, trivial⟩, Below.refl _ _⟩ ?_
  rintro m a wr ⟨k, hk, rfl, ha, hB⟩ J0 K1 hJ hK1
  by_cases c : k < bs.length
  · have hkl : (k : Int) < (bs.length : Int) := by omega
    obtain ⟨g, off, rfl, _⟩ := HN.out (by omega)
    have hcell : wr.cell? ⟨g, off + k, none⟩ = some (.float .f64 (bs.getD k 0)) := by
      obtain ⟨a1, c1, e1, h1⟩ := HR.out.below hB
      rw [List.length_map] at e1 h1
      cases e1
      obtain ⟨g1, o1, e1, h1⟩ := h1 (by omega)
      cases e1
      have := h1 k c
      rw [this]
      simp [List.getD, List.getElem?_eq_getElem c]
    have hlt := lsK_lt hx hbs k
    have hbk : bs.getD k 0 < 18446744073709551616 := hbs _ (by simp [List.getD, List.getElem?_eq_getElem c])
    have hs1 : Hid (lsK x bs (k + 1) = if key64 (bs.getD k 0) < key64 (lsK x bs k).1 then (bs.getD k 0, k + 1) else lsK x bs k) := rfl
    generalize bs.getD k 0 = b at *
    obtain ⟨hlt1, hlt2⟩ := hlt
    generalize hpr : lsK x bs k = pr at *
    obtain ⟨best, pl⟩ := pr
    dsimp only at hlt1 hlt2 ha hs1
    have k31 := fun w => order_any b best w hbk hlt1
    have HB := show Hid _ from hB
    have hc := show Hid _ from c
    have hJ := show Hid _ from hJ
    have hk9 : (k : Int) ≤ 140737488355328 := by omega
    have hst := show Hid _ from hs1.out
    by_cases cc : key64 b < key64 best
    · have hsg : sgnc (key64 b) (key64 best) < 0 := by unfold sgnc; rw [if_pos cc]; decide
      have hst2 : Hid (lsK x bs (k + 1) = (b, k + 1)) := by show _ = _; rw [hst.out, if_pos cc]
      generalize sgnc (key64 b) (key64 best) = s at *
      clear hK hs1 hst hB hk c hlt1 hlt2 hbk hpr cc hl hbs hx HR HN
      obtain ⟨f, rfl, h6, h7, h11, h12, h13, -⟩ := ha.lit
      change Code.wp _ _ _ ⟨#[f 0, f 1, f 2, f 3, f 4, f 5, f 6, f 7, f 8, f 9, f 10, f 11, f 12, f 13, f 14, f 15, f 16, f 17, f 18, f 19, f 20, f 21, f 22, f 23, f 24, f 25, f 26, f 27], []⟩ _
      simp only at h6 h7 h11 h12 h13
      simp only [h6, h7, h11, h12, h13]
      clear h6 h7 h11 h12 h13
      go_wp2_with (go_at_call 31; refine (k31 _).mono ?_)
      intro e1 w1 hq
      first | (obtain ⟨rfl, b1⟩ : _ ∧ _ := hq) | (subst hq; intro b1)
      have B1 : Hid (Below w.heap.size w w1) := HB.out.trans (b1.mono HB.out.size)
      clear b1
      go_wp2
      exact Handed.intro (bs.length - (k + 1)) (by have := hc.out; omega) (hJ.out _ _ _ ⟨k + 1, hc.out, rfl, by rw [hst2.out, show ((k + 1 : Nat) : Int) = (k : Int) + 1 by omega]; exact ⟨rfl, rfl, rfl, rfl, rfl, rfl, rfl, trivial⟩, B1.out⟩)
    · have hsg : ¬ sgnc (key64 b) (key64 best) < 0 := by unfold sgnc; rw [if_neg cc]; split <;> decide
      have hst2 : Hid (lsK x bs (k + 1) = (best, pl)) := by show _ = _; rw [hst.out, if_neg cc]
      generalize sgnc (key64 b) (key64 best) = s at *
      clear hK hs1 hst hB hk c hlt1 hlt2 hbk hpr cc hl hbs hx HR HN
      obtain ⟨f, rfl, h6, h7, h11, h12, h13, -⟩ := ha.lit
      change Code.wp _ _ _ ⟨#[f 0, f 1, f 2, f 3, f 4, f 5, f 6, f 7, f 8, f 9, f 10, f 11, f 12, f 13, f 14, f 15, f 16, f 17, f 18, f 19, f 20, f 21, f 22, f 23, f 24, f 25, f 26, f 27], []⟩ _
      simp only at h6 h7 h11 h12 h13
      simp only [h6, h7, h11, h12, h13]
      clear h6 h7 h11 h12 h13
      go_wp2_with (go_at_call 31; refine (k31 _).mono ?_)
      intro e1 w1 hq
      first | (obtain ⟨rfl, b1⟩ : _ ∧ _ := hq) | (subst hq; intro b1)
      have B1 : Hid (Below w.heap.size w w1) := HB.out.trans (b1.mono HB.out.size)
      clear b1
      go_wp2
      exact Handed.intro (bs.length - (k + 1)) (by have := hc.out; omega) (hJ.out _ _ _ ⟨k + 1, hc.out, rfl, by rw [hst2.out, show ((k + 1 : Nat) : Int) = (k : Int) + 1 by omega]; exact ⟨rfl, rfl, rfl, rfl, rfl, rfl, rfl, trivial⟩, B1.out⟩)
  · have hkb : k = bs.length := by omega
    subst hkb
    have HB := show Hid _ from hB
    generalize lsK x bs bs.length = pr at *
    clear hJ hK1 c hk hB HN HR hbs hx
    obtain ⟨f, rfl, h6, h7, h11, h12, h13, -⟩ := ha.lit
    change Code.wp _ _ _ ⟨#[f 0, f 1, f 2, f 3, f 4, f 5, f 6, f 7, f 8, f 9, f 10, f 11, f 12, f 13, f 14, f 15, f 16, f 17, f 18, f 19, f 20, f 21, f 22, f 23, f 24, f 25, f 26, f 27], []⟩ _
    simp only at h6 h7 h11 h12 h13
    simp only [h6, h7, h11, h12, h13]
    clear h6 h7 h11 h12 h13
    go_wp2
    exact hK.out _ _ HB.out ⟨rfl, rfl, rfl, rfl, trivial⟩
set_option maxRecDepth 100000 in
set_option maxHeartbeats 2000000 in
theorem least_b (p q : Nat) (a : Act) (w0 w : World) (B : Hid (Below w0.heap.size w0 w)) (ha : At 28 [(6, .float .f64 p), (7, .int .i64 (q : Nat))] a) : Code.wp Try.prog (sq 3 body35) (bodyPost Try.prog Try.f35 fun e w' => e = .returned (.tuple #[.float .f64 p, .int .i64 (q : Nat)]) ∧ Below w0.heap.size w0 w') a w := by
  obtain ⟨f, rfl, h6, h7, -⟩ := ha.lit
  change Code.wp _ _ _ ⟨#[f 0, f 1, f 2, f 3, f 4, f 5, f 6, f 7, f 8, f 9, f 10, f 11, f 12, f 13, f 14, f 15, f 16, f 17, f 18, f 19, f 20, f 21, f 22, f 23, f 24, f 25, f 26, f 27], []⟩ _
  simp only at h6 h7
  simp only [h6, h7]
  clear h6 h7
  conv => arg 2; whnf
  go_wp2
  go_ret2
  exact ⟨rfl, B.out⟩
theorem least_any (x : Nat) (bs : List Nat) (v : Value) (w : World) (hx : x < 18446744073709551616) (hbs : ∀ b ∈ bs, b < 18446744073709551616) (hl : bs.length ≤ 140737488355328) (hr : Rd w v (bs.map fun b => Value.float .f64 b)) : Calls Try.prog 35 #[.float .f64 x, v] w fun e w' => e = .returned (.tuple #[.float .f64 (lsK x bs bs.length).1, .int .i64 ((lsK x bs bs.length).2 : Nat)]) ∧ Below w.heap.size w w' :=
  least_a x bs v w hx hbs hl hr fun a w1 B1 ha => least_b _ _ a w w1 B1 ha
end Go.Proofs.Ytjcjecbffnadaaa
