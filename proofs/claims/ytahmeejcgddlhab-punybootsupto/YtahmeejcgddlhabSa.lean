/-
  Whether parameters may be.
-/
import Derived.Test.YtahmeejcgddlhabPb
import Derived.Test.YtahmeejcgddlhabPk
import Derived.Deep.DeepMust
namespace Go.Proofs.Ytahmeejcgddlhab
open Go.RowKit
/-- Whether a number lies within two bounds. -/
def wiB (n l m : Int) : Bool := decide (l ≤ n) && decide (n ≤ m)
theorem wiB_iff (n l m : Int) : wiB n l m = true ↔ l ≤ n ∧ n ≤ m := by unfold wiB; simp
theorem within2_any (n l m : Int) (w : World) : Calls Try.prog 17 #[.int .i64 n, .int .i64 l, .int .i64 m] w fun e w' => e = .returned (.bool (wiB n l m)) ∧ w' = w := within_any n l m w
/-- Whether parameters may be. -/
def chk (p : Bt) : Bool := wiB p.base 3 36 && wiB p.most 1 (p.base - 2) && wiB p.least 0 p.most && wiB p.skew 1 10000 && wiB p.damp 2 10000 && wiB p.bias 0 10000 && wiB p.first 1 1114111 && wiB p.btw 33 126 && decide (p.btw < p.first) && decide (dgTo p.base p.btw < 0)
theorem chk_ok {p : Bt} (h : chk p = true) : Okb p ∧ p.btw < p.first ∧ dgTo p.base p.btw < 0 := by
  unfold chk at h
  simp only [Bool.and_eq_true, wiB_iff, decide_eq_true_eq] at h
  obtain ⟨⟨⟨⟨⟨⟨⟨⟨⟨⟨a1, a2⟩, b1, b2⟩, c1, c2⟩, d1, d2⟩, e1, e2⟩, f1, f2⟩, g1, g2⟩, i1, i2⟩, j⟩, k⟩ := h
  exact ⟨⟨a1, a2, c1, c2, b1, b2, d1, d2, e1, e2, f1, f2, g1, g2, i1, i2⟩, j, k⟩
set_option maxRecDepth 100000 in
set_option maxHeartbeats 4000000 in
theorem check_any (p : Bt) (w : World) (hb : 0 ≤ p.btw) (hb2 : p.btw < 256) : Calls Try.prog 6 #[.agg (bv p)] w fun e w' => e = .returned (.int .i64 (if chk p then 0 else 144)) ∧ Below w.heap.size w w' := by
  have B0 := fun o => (Below.refl w.heap.size w).alloc (Nat.le_refl _) o
  have kd := fun w => digitTo_any p.base p.btw w hb hb2
  have db : -1 ≤ dgTo p.base p.btw ∧ dgTo p.base p.btw ≤ 35 := by
    have := dg_bound p.btw
    unfold dgTo; split <;> omega
  have hc : chk p = (wiB p.base 3 36 && wiB p.most 1 (p.base - 2) && wiB p.least 0 p.most && wiB p.skew 1 10000 && wiB p.damp 2 10000 && wiB p.bias 0 10000 && wiB p.first 1 1114111 && wiB p.btw 33 126 && decide (p.btw < p.first) && decide (dgTo p.base p.btw < 0)) := rfl
  obtain ⟨base, least, most, skew, damp, bias, fst, btw⟩ := p
  unfold bv at B0 ⊢
  simp only at hb hb2 kd db hc B0 ⊢
  obtain ⟨DT, hDT⟩ : ∃ DT, dgTo base btw = DT := ⟨_, rfl⟩
  simp only [hDT] at kd hc db
  generalize chk ⟨base, least, most, skew, damp, bias, fst, btw⟩ = CK at *
  clear hDT
  replace B0 : Hid (∀ o : Obj, Below w.heap.size w (w.alloc o)) := B0
  cases h1 : wiB base 3 36 with
  | false =>
    obtain rfl : CK = false := by rw [hc]; simp [h1]
    clear hc
    go_enter Try.func6, Try.ntmps6
    go_wp2_with (first | (go_at_call 17; refine (within2_any _ _ _ _).mono ?_; rintro e w' ⟨rfl, hw⟩; rw [hw]; clear hw) | (go_at_call 18; refine (kd _).mono ?_; rintro e w' ⟨rfl, hw⟩; rw [hw]; clear hw))
    go_ret
    exact ⟨rfl, B0.out _⟩
  | true =>
    cases h2 : wiB most 1 (base - 2) with
    | false =>
      obtain rfl : CK = false := by rw [hc]; simp [h1, h2]
      have a1 := (wiB_iff _ _ _).1 h1
      have aw : wrap64 (base - 2) = base - 2 := by unfold wrap64; omega
      clear hc
      go_enter Try.func6, Try.ntmps6
      go_wp2_with (first | (go_at_call 17; refine (within2_any _ _ _ _).mono ?_; rintro e w' ⟨rfl, hw⟩; rw [hw]; clear hw) | (go_at_call 18; refine (kd _).mono ?_; rintro e w' ⟨rfl, hw⟩; rw [hw]; clear hw))
      go_ret
      exact ⟨rfl, B0.out _⟩
    | true =>
      cases h3 : wiB least 0 most with
      | false =>
        obtain rfl : CK = false := by rw [hc]; simp [h1, h2, h3]
        have a1 := (wiB_iff _ _ _).1 h1
        have aw : wrap64 (base - 2) = base - 2 := by unfold wrap64; omega
        clear hc
        go_enter Try.func6, Try.ntmps6
        go_wp2_with (first | (go_at_call 17; refine (within2_any _ _ _ _).mono ?_; rintro e w' ⟨rfl, hw⟩; rw [hw]; clear hw) | (go_at_call 18; refine (kd _).mono ?_; rintro e w' ⟨rfl, hw⟩; rw [hw]; clear hw))
        go_ret
        exact ⟨rfl, B0.out _⟩
      | true =>
        cases h4 : wiB skew 1 10000 with
        | false =>
          obtain rfl : CK = false := by rw [hc]; simp [h1, h2, h3, h4]
          have a1 := (wiB_iff _ _ _).1 h1
          have aw : wrap64 (base - 2) = base - 2 := by unfold wrap64; omega
          clear hc
          go_enter Try.func6, Try.ntmps6
          go_wp2_with (first | (go_at_call 17; refine (within2_any _ _ _ _).mono ?_; rintro e w' ⟨rfl, hw⟩; rw [hw]; clear hw) | (go_at_call 18; refine (kd _).mono ?_; rintro e w' ⟨rfl, hw⟩; rw [hw]; clear hw))
          go_ret
          exact ⟨rfl, B0.out _⟩
        | true =>
          cases h5 : wiB damp 2 10000 with
          | false =>
            obtain rfl : CK = false := by rw [hc]; simp [h1, h2, h3, h4, h5]
            have a1 := (wiB_iff _ _ _).1 h1
            have aw : wrap64 (base - 2) = base - 2 := by unfold wrap64; omega
            clear hc
            go_enter Try.func6, Try.ntmps6
            go_wp2_with (first | (go_at_call 17; refine (within2_any _ _ _ _).mono ?_; rintro e w' ⟨rfl, hw⟩; rw [hw]; clear hw) | (go_at_call 18; refine (kd _).mono ?_; rintro e w' ⟨rfl, hw⟩; rw [hw]; clear hw))
            go_ret
            exact ⟨rfl, B0.out _⟩
          | true =>
            cases h6 : wiB bias 0 10000 with
            | false =>
              obtain rfl : CK = false := by rw [hc]; simp [h1, h2, h3, h4, h5, h6]
              have a1 := (wiB_iff _ _ _).1 h1
              have aw : wrap64 (base - 2) = base - 2 := by unfold wrap64; omega
              clear hc
              go_enter Try.func6, Try.ntmps6
              go_wp2_with (first | (go_at_call 17; refine (within2_any _ _ _ _).mono ?_; rintro e w' ⟨rfl, hw⟩; rw [hw]; clear hw) | (go_at_call 18; refine (kd _).mono ?_; rintro e w' ⟨rfl, hw⟩; rw [hw]; clear hw))
              go_ret
              exact ⟨rfl, B0.out _⟩
            | true =>
              cases h7 : wiB fst 1 1114111 with
              | false =>
                obtain rfl : CK = false := by rw [hc]; simp [h1, h2, h3, h4, h5, h6, h7]
                have a1 := (wiB_iff _ _ _).1 h1
                have aw : wrap64 (base - 2) = base - 2 := by unfold wrap64; omega
                clear hc
                go_enter Try.func6, Try.ntmps6
                go_wp2_with (first | (go_at_call 17; refine (within2_any _ _ _ _).mono ?_; rintro e w' ⟨rfl, hw⟩; rw [hw]; clear hw) | (go_at_call 18; refine (kd _).mono ?_; rintro e w' ⟨rfl, hw⟩; rw [hw]; clear hw))
                go_ret
                exact ⟨rfl, B0.out _⟩
              | true =>
                cases h8 : wiB btw 33 126 with
                | false =>
                  obtain rfl : CK = false := by rw [hc]; simp [h1, h2, h3, h4, h5, h6, h7, h8]
                  have a1 := (wiB_iff _ _ _).1 h1
                  have aw : wrap64 (base - 2) = base - 2 := by unfold wrap64; omega
                  clear hc
                  go_enter Try.func6, Try.ntmps6
                  go_wp2_with (first | (go_at_call 17; refine (within2_any _ _ _ _).mono ?_; rintro e w' ⟨rfl, hw⟩; rw [hw]; clear hw) | (go_at_call 18; refine (kd _).mono ?_; rintro e w' ⟨rfl, hw⟩; rw [hw]; clear hw))
                  go_ret
                  exact ⟨rfl, B0.out _⟩
                | true =>
                  cases h9 : decide (btw < fst) with
                  | false =>
                    obtain rfl : CK = false := by rw [hc]; simp [h1, h2, h3, h4, h5, h6, h7, h8, h9]
                    have a1 := (wiB_iff _ _ _).1 h1
                    have aw : wrap64 (base - 2) = base - 2 := by unfold wrap64; omega
                    have g9 : decide (fst ≤ btw) = true := by have := of_decide_eq_false h9; simp; omega
                    clear hc
                    go_enter Try.func6, Try.ntmps6
                    go_wp2_with (first | (go_at_call 17; refine (within2_any _ _ _ _).mono ?_; rintro e w' ⟨rfl, hw⟩; rw [hw]; clear hw) | (go_at_call 18; refine (kd _).mono ?_; rintro e w' ⟨rfl, hw⟩; rw [hw]; clear hw))
                    go_ret
                    exact ⟨rfl, B0.out _⟩
                  | true =>
                    cases h10 : decide (DT < 0) with
                    | false =>
                      obtain rfl : CK = false := by rw [hc]; simp [h1, h2, h3, h4, h5, h6, h7, h8, h9, h10]
                      have a1 := (wiB_iff _ _ _).1 h1
                      have aw : wrap64 (base - 2) = base - 2 := by unfold wrap64; omega
                      have g9 : decide (fst ≤ btw) = false := by have := of_decide_eq_true h9; simp; omega
                      have g10 : decide (0 ≤ DT) = true := by have := of_decide_eq_false h10; simp; omega
                      clear hc
                      go_enter Try.func6, Try.ntmps6
                      go_wp2_with (first | (go_at_call 17; refine (within2_any _ _ _ _).mono ?_; rintro e w' ⟨rfl, hw⟩; rw [hw]; clear hw) | (go_at_call 18; refine (kd _).mono ?_; rintro e w' ⟨rfl, hw⟩; rw [hw]; clear hw))
                      go_ret
                      exact ⟨rfl, B0.out _⟩
                    | true =>
                      obtain rfl : CK = true := by rw [hc]; simp [h1, h2, h3, h4, h5, h6, h7, h8, h9, h10]
                      have a1 := (wiB_iff _ _ _).1 h1
                      have aw : wrap64 (base - 2) = base - 2 := by unfold wrap64; omega
                      have g9 : decide (fst ≤ btw) = false := by have := of_decide_eq_true h9; simp; omega
                      have g10 : decide (0 ≤ DT) = false := by have := of_decide_eq_true h10; simp; omega
                      clear hc
                      go_enter Try.func6, Try.ntmps6
                      go_wp2_with (first | (go_at_call 17; refine (within2_any _ _ _ _).mono ?_; rintro e w' ⟨rfl, hw⟩; rw [hw]; clear hw) | (go_at_call 18; refine (kd _).mono ?_; rintro e w' ⟨rfl, hw⟩; rw [hw]; clear hw))
                      go_ret
                      exact ⟨rfl, B0.out _⟩
end Go.Proofs.Ytahmeejcgddlhab
