/-
  Sets of code points as lists of spans; the contracts of mayBe, span.Is and the law's two. Conditions: the numbers fit; the lists take no more bytes than there are.
-/
import Derived.Test.YtookbgmolggohabOy
import Derived.Test.YtookbgmolggohabNa
import Derived.Test.YtookbgmolggohabSt
import Derived.Test.YtookbgmolggohabLy
import Derived.Test.YtookbgmolggohabBu
import Derived.Test.YtookbgmolggohabWk
namespace Go.Proofs.Ytookbgmolggohab
open Go.RowKit
/-- A span that may stand behind what ends two ahead of l. -/
def okR (l : Int) (r : Rw) : Bool := decide (0 ≤ r.1) && decide (r.1 ≤ r.2.1) && decide (r.2.1 ≤ 1114111) && !decide (r.1 < l)
theorem okR_iff {l : Int} {r : Rw} : okR l r = true ↔ 0 ≤ r.1 ∧ r.1 ≤ r.2.1 ∧ r.2.1 ≤ 1114111 ∧ l ≤ r.1 := by
  simp [okR, and_assoc]
/-- Spans that rise and are apart, from l on. -/
def spB : Int → List Rw → Bool
  | _, [] => true
  | l, r :: X => okR l r && spB (r.2.1 + 2) X
def nx (X : List Rw) (k : Nat) : Int := if k = 0 then 0 else (X.getD (k - 1) (0, 0, 0)).2.1 + 2
theorem spB_snoc : ∀ (X : List Rw) (l : Int) (r : Rw), spB l (X ++ [r]) = (spB l X && okR (match X.getLast? with | some s => s.2.1 + 2 | none => l) r)
  | [], l, r => by simp [spB]
  | [s], l, r => by simp [spB]
  | s :: t :: X, l, r => by
    show (okR l s && spB (s.2.1 + 2) ((t :: X) ++ [r])) = ((okR l s && spB (s.2.1 + 2) (t :: X)) && _)
    obtain ⟨q, hq⟩ : ∃ q, (t :: X).getLast? = some q := ⟨(t :: X).getLast (by simp), List.getLast?_eq_some_getLast (by simp)⟩
    rw [spB_snoc (t :: X) (s.2.1 + 2) r, Bool.and_assoc, List.getLast?_cons_cons, hq]
theorem spB_step {X : List Rw} {k : Nat} (h : k < X.length) : spB 0 (X.take (k + 1)) = (spB 0 (X.take k) && okR (nx X k) (X.getD k (0, 0, 0))) := by
  rw [List.take_add_one, List.getElem?_eq_getElem h, Option.toList_some, spB_snoc]
  congr 1
  have e : X.getD k (0, 0, 0) = X[k] := by simp [List.getD, List.getElem?_eq_getElem h]
  rw [e]
  congr 1
  unfold nx
  by_cases hk : k = 0
  · subst hk; simp
  · rw [if_neg hk, List.getLast?_eq_getElem?, List.length_take, Nat.min_eq_left (by omega), List.getElem?_take_of_lt (by omega), List.getElem?_eq_getElem (by omega)]
    simp [List.getD, List.getElem?_eq_getElem (show k - 1 < X.length by omega)]
theorem spB_front : ∀ {X : List Rw} {l : Int} (k : Nat), spB l X = true → spB l (X.take k) = true
  | [], l, k, _ => by simp [spB]
  | r :: X, l, 0, _ => rfl
  | r :: X, l, k + 1, h => by
    have h : (okR l r && spB (r.2.1 + 2) X) = true := h
    rw [Bool.and_eq_true] at h
    show (okR l r && spB (r.2.1 + 2) (X.take k)) = true
    rw [h.1, spB_front k h.2]
    rfl
set_option maxRecDepth 100000 in
theorem maybe_any (x y : Int) (w : World) : Calls Try.prog 77 #[.agg #[.int .i32 x, .int .i32 y]] w fun e w' => e = .returned (.bool (decide (0 ≤ x) && decide (x ≤ y) && decide (y ≤ 1114111))) ∧ Below w.heap.size w w' := by
  have B0 : Hid (Below w.heap.size w (w.alloc (.cells #[.int .i32 x, .int .i32 y] 41))) := (Below.refl _ _).alloc (Nat.le_refl _) _
  by_cases c1 : 0 ≤ x
  · have d1 : decide (0 ≤ x) = true := decide_eq_true c1
    by_cases c2 : x ≤ y
    · have d2 : decide (x ≤ y) = true := decide_eq_true c2
      rw [d1, d2, Bool.true_and, Bool.true_and]
      clear c1 c2
      go_enter Try.func77, Try.ntmps77
      go_wp2
      go_ret
      exact ⟨rfl, B0.out⟩
    · have d2 : decide (x ≤ y) = false := decide_eq_false c2
      rw [d1, d2, Bool.true_and, Bool.false_and]
      clear c1 c2
      go_enter Try.func77, Try.ntmps77
      go_wp2
      go_ret
      exact ⟨rfl, B0.out⟩
  · have d1 : decide (0 ≤ x) = false := decide_eq_false c1
    rw [d1, Bool.false_and, Bool.false_and]
    clear c1
    go_enter Try.func77, Try.ntmps77
    go_wp2
    go_ret
    exact ⟨rfl, B0.out⟩
theorem box2 (w : World) (x y : Value) (t : TypeId) : (w.alloc (.cells #[x, y] t)).cell? ⟨w.heap.size, 0, none⟩ = some x ∧ (w.alloc (.cells #[x, y] t)).cell? ⟨w.heap.size, 1, none⟩ = some y := ⟨(cell_of_row _ _ 0 _ _ _ (heap_alloc_last _ _)).trans rfl, (cell_of_row _ _ 1 _ _ _ (heap_alloc_last _ _)).trans rfl⟩
set_option maxRecDepth 100000 in
set_option maxHeartbeats 2000000 in
theorem is_dec (X : List Rw) (v : Value) (w : World) (R : Bool) (hRR : R = true ↔ X.length ≤ 65536 ∧ spB 0 X = true) (hr : Rd2 w v X) (hl : X.length ≤ 17592186044416) : Calls Try.prog 53 #[v] w fun e w' => e = .returned (.bool R) ∧ Below w.heap.size w w' := by
  have HR : Hid (∀ W, Below w.heap.size w W → Rd2 W v X) := fun W hW => hr.below hW
  obtain ⟨av, cv, rfl, -, -⟩ := hr
  by_cases c : 65536 < X.length
  · have d : decide ((65536 : Int) < (X.length : Int)) = true := decide_eq_true (by omega)
    have hR : R = false := by
      cases R
      · rfl
      · have := (hRR.1 rfl).1; omega
    subst hR
    clear hRR c HR hl
    go_enter Try.func53, Try.ntmps53
    go_wp2
    go_ret
    exact ⟨rfl, Below.refl _ _⟩
  · have d : decide ((65536 : Int) < (X.length : Int)) = false := decide_eq_false (by omega)
    have d2 : (X.length : Int) ≤ 65536 := by omega
    have HRR : Hid (R = true ↔ X.length ≤ 65536 ∧ spB 0 X = true) := hRR
    have HC : Hid (X.length ≤ 65536) := by rw [Hid]; omega
    clear hRR c hl
    go_enter Try.func53, Try.ntmps53
    go_wp2_with fail
    go_loopw [3, 11] (fun l y wr => ∃ k : Nat, k ≤ X.length ∧ y = .int .i64 (k : Nat) ∧ l = .int .i32 (nx X k) ∧ Hid (spB 0 (X.take k) = true) ∧ Hid (Below w.heap.size w wr)) (fun _ y _ => (X.length - (intOf y).toNat : Nat))
    case atStart => exact ⟨0, Nat.zero_le _, rfl, rfl, rfl, Below.refl _ _⟩
    case round =>
      obtain ⟨k, hk, rfl, rfl, hS, hB⟩ := hrel
      have hbsz := hB.out.size
      by_cases hkl : k < X.length
      · obtain ⟨a2, c2, e2, -, hc⟩ := HR.out wr hB.out
        obtain ⟨rfl, rfl⟩ : av = a2 ∧ cv = c2 := by simpa using e2
        obtain ⟨g, off, rfl, hd1⟩ := hc (by omega)
        obtain ⟨e1, e2'⟩ := hd1 k hkl
        have kl : (k : Int) < (X.length : Int) := by omega
        have hst := spB_step hkl
        rw [hS.out, Bool.true_and] at hst
        have hnx : Hid (nx X (k + 1) = (X.getD k (0, 0, 0)).2.1 + 2) := by rw [Hid]; unfold nx; rw [if_neg (by omega)]; rfl
        have HK : Hid (k < X.length) := hkl
        clear hd1 hc e2 hS
        generalize X.getD k (0, 0, 0) = s at *
        obtain ⟨x, y, z⟩ := s
        simp only at e1 e2' hnx
        obtain ⟨q1, q2⟩ := box2 wr (.int .i32 x) (.int .i32 y) 41
        have B1 : Hid (Below w.heap.size w (wr.alloc (.cells #[.int .i32 x, .int .i32 y] 41))) := hB.out.alloc hbsz _
        generalize nx X k = l0 at *
        have KM := fun W => maybe_any x y W
        by_cases cm : (decide (0 ≤ x) && decide (x ≤ y) && decide (y ≤ 1114111)) = true
        · have hm : 0 ≤ x ∧ x ≤ y ∧ y ≤ 1114111 := by simpa [and_assoc] using cm
          rw [cm] at KM
          have hy1 : y ≤ 1114111 := hm.2.2
          have hy0 : 0 ≤ y := by omega
          by_cases cl : x < l0
          · have dl : decide (x < l0) = true := decide_eq_true cl
            have hR : Hid (R = false) := by
              rw [Hid]
              cases R
              · rfl
              · have h1 := spB_front (k + 1) (HRR.out.1 rfl).2
                rw [hst, okR_iff] at h1
                simp only at h1
                omega
            have KMh : Hid (∀ W, Calls Try.prog 77 #[.agg #[.int .i32 x, .int .i32 y]] W fun e w' => e = .returned (.bool true) ∧ Below W.heap.size W w') := KM
            clear cm hm cl hst KM hkl
            go_wp2_with (go_at_call 77; refine (KMh.out _).mono ?_)
            first | rintro e w3 rfl b3 | rintro e w3 ⟨rfl, b3⟩
            have B3 : Hid (Below w.heap.size w w3) := B1.out.trans (b3.mono B1.out.size)
            have q3 := (b3.cell (p := ⟨wr.heap.size, 0, none⟩) (by simp)).trans q1
            clear b3 q1 q2
            go_wp2
            go_ret
            rw [hR.out]
            exact ⟨rfl, B3.out⟩
          · have dl : decide (x < l0) = false := decide_eq_false cl
            have hS2 : Hid (spB 0 (X.take (k + 1)) = true) := by rw [Hid, hst, okR_iff]; simp only; omega
            have KMh : Hid (∀ W, Calls Try.prog 77 #[.agg #[.int .i32 x, .int .i32 y]] W fun e w' => e = .returned (.bool true) ∧ Below W.heap.size W w') := KM
            clear cm hm cl hst KM hkl
            go_wp2_with (go_at_call 77; refine (KMh.out _).mono ?_)
            first | rintro e w3 rfl b3 | rintro e w3 ⟨rfl, b3⟩
            have B3 : Hid (Below w.heap.size w w3) := B1.out.trans (b3.mono B1.out.size)
            have q3 := (b3.cell (p := ⟨wr.heap.size, 0, none⟩) (by simp)).trans q1
            have q4 := (b3.cell (p := ⟨wr.heap.size, 1, none⟩) (by simp)).trans q2
            clear b3 q1 q2
            go_wp2
            exact ⟨⟨k + 1, by have := HK.out; omega, by go_num, by rw [hnx.out], hS2, B3⟩, by have := HK.out; simp [intOf]; omega⟩
        · have cmf : (decide (0 ≤ x) && decide (x ≤ y) && decide (y ≤ 1114111)) = false := by simpa using cm
          rw [cmf] at KM
          have hR : Hid (R = false) := by
            rw [Hid]
            cases R
            · rfl
            · have h1 := spB_front (k + 1) (HRR.out.1 rfl).2
              rw [hst, okR_iff] at h1
              simp only at h1
              exfalso
              apply cm
              simp [h1]
          have KMh : Hid (∀ W, Calls Try.prog 77 #[.agg #[.int .i32 x, .int .i32 y]] W fun e w' => e = .returned (.bool false) ∧ Below W.heap.size W w') := KM
          clear cm cmf hst KM hkl
          go_wp2_with (go_at_call 77; refine (KMh.out _).mono ?_)
          first | rintro e w3 rfl b3 | rintro e w3 ⟨rfl, b3⟩
          have B3 : Hid (Below w.heap.size w w3) := B1.out.trans (b3.mono B1.out.size)
          clear b3 q1 q2
          go_wp2
          go_ret
          rw [hR.out]
          exact ⟨rfl, B3.out⟩
      · have kl : decide ((k : Int) < (X.length : Int)) = false := decide_eq_false (by omega)
        have kl2 : ¬ ((k : Int) < (X.length : Int)) := by omega
        have hR : Hid (R = true) := HRR.out.2 ⟨HC.out, by have := hS.out; rwa [List.take_of_length_le (by omega)] at this⟩
        clear hS hkl
        go_wp2
        go_ret
        rw [hR.out]
        exact ⟨rfl, hB.out⟩
end Go.Proofs.Ytookbgmolggohab
