/-
  The walk of the law CanonSyllables: it returns true and turns nothing that was there. No conditions but that its two numbers are runes.
-/
import Derived.Test.YtdjdbabhcdfecaaAx
import Derived.Deep.RegionWith
namespace Go.Proofs.Ytdjdbabhcdfecaa
open Go.RowKit
/-- A number, kept from 0 to n. -/
def clampI (x n : Int) : Int := if x < 0 then 0 else if n < x then n else x
theorem clamp_range (x n : Int) (h : 0 ≤ n) : 0 ≤ clampI x n ∧ clampI x n ≤ n := by unfold clampI; split; omega; split <;> omega
theorem clamp_low (x n : Int) (h : x ≤ 0) (hn : 0 ≤ n) : clampI x n = 0 := by unfold clampI; split; rfl; split <;> omega
theorem clamp_high (x n : Int) (h : n ≤ x) (hn : 0 ≤ n) : clampI x n = n := by unfold clampI; split; omega; split <;> omega
theorem clamp_mid (x n : Int) (h : 0 ≤ x) (hn : x ≤ n) : clampI x n = x := by unfold clampI; split; omega; split <;> omega
/-- How many first jamo lie from A on and ahead of k. -/
def cL (A k : Int) : Int := if A < 4352 then clampI (k - 4352) 19 else clampI (k - A) (clampI (4371 - A) 19)
theorem cL_start (A : Int) : cL A A = 0 := by
  unfold cL
  split
  · exact clamp_low _ _ (by omega) (by omega)
  · exact clamp_low _ _ (by omega) (clamp_range _ _ (by omega)).1
theorem cL_range (A k : Int) : 0 ≤ cL A k ∧ cL A k ≤ 19 := by
  unfold cL
  split
  · exact clamp_range _ _ (by omega)
  · have := clamp_range (4371 - A) 19 (by omega)
    have := clamp_range (k - A) (clampI (4371 - A) 19) (by omega)
    omega
theorem cL_in (A k : Int) (hA : A ≤ k) (h1 : 4352 ≤ k) (h2 : k < 4371) : cL A (k + 1) = cL A k + 1 ∧ cL A (k + 1) ≤ 19 := by
  unfold cL
  split
  · rw [clamp_mid _ _ (by omega) (by omega), clamp_mid _ _ (by omega) (by omega)]; omega
  · rw [clamp_mid (4371 - A) _ (by omega) (by omega), clamp_mid _ _ (by omega) (by omega), clamp_mid _ _ (by omega) (by omega)]; omega
theorem cL_out (A k : Int) (hA : A ≤ k) (h : k < 4352 ∨ 4371 ≤ k) : cL A (k + 1) = cL A k := by
  unfold cL
  split
  · rcases h with h | h
    · rw [clamp_low _ _ (by omega) (by omega), clamp_low _ _ (by omega) (by omega)]
    · rw [clamp_high _ _ (by omega) (by omega), clamp_high _ _ (by omega) (by omega)]
  · have r := clamp_range (4371 - A) 19 (by omega)
    have hk : 4371 ≤ k := by omega
    have e : clampI (4371 - A) 19 ≤ k - A := by
      by_cases z : 4371 ≤ A
      · rw [clamp_low _ _ (by omega) (by omega)]; omega
      · rw [clamp_mid _ _ (by omega) (by omega)]; omega
    rw [clamp_high _ _ (by omega) r.1, clamp_high _ _ (by omega) r.1]
theorem cL_all (A k : Int) (h : A ≤ 4352) (hk : 4371 ≤ k) : cL A k = 19 := by
  unfold cL
  split
  · exact clamp_high _ _ (by omega) (by omega)
  · rw [clamp_mid (4371 - A) _ (by omega) (by omega), clamp_high _ _ (by omega) (by omega)]; omega
theorem cL_few (A k : Int) (h : 4352 < A ∨ k ≤ 4370 ∨ k = A) : cL A k ≤ 18 := by
  by_cases e : k = A
  · subst e; rw [cL_start]; omega
  unfold cL
  split
  · by_cases z : k ≤ 4352
    · rw [clamp_low _ _ (by omega) (by omega)]; omega
    · rw [clamp_mid _ _ (by omega) (by omega)]; omega
  · rename_i hA
    by_cases z : 4371 ≤ A
    · rw [clamp_low (4371 - A) _ (by omega) (by omega)]
      have := clamp_range (k - A) 0 (by omega); omega
    · rw [clamp_mid (4371 - A) _ (by omega) (by omega)]
      have := clamp_range (k - A) (4371 - A) (by omega)
      by_cases y : k ≤ 4370
      · by_cases x : k ≤ A
        · rw [clamp_low _ _ (by omega) (by omega)]; omega
        · rw [clamp_mid _ _ (by omega) (by omega)]; omega
      · omega
/-- How many syllables came by: of whole first jamo, of whole second ones, and of third ones. -/
def nV (k j : Int) : Int := if k < 4352 then 0 else if 4371 ≤ k then 0 else 28 * clampI (j - 4449) 21
def nT (k j i : Int) : Int := if k < 4352 then 0 else if 4371 ≤ k then 0 else if j < 4449 then 0 else if 4470 ≤ j then 0 else clampI (i - 4519) 28
theorem nV_start (k : Int) : nV k 4440 = 0 := by unfold nV; split; rfl; split; rfl; rw [clamp_low _ _ (by omega) (by omega)]; rfl
theorem nT_start (k j : Int) : nT k j 4518 = 0 := by unfold nT; split; rfl; split; rfl; split; rfl; split; rfl; exact clamp_low _ _ (by omega) (by omega)
theorem nV_range (k j : Int) : 0 ≤ nV k j ∧ nV k j ≤ 588 := by
  have := clamp_range (j - 4449) 21 (by omega)
  unfold nV; split; omega; split <;> omega
theorem nT_range (k j i : Int) : 0 ≤ nT k j i ∧ nT k j i ≤ 28 := by
  have := clamp_range (i - 4519) 28 (by omega)
  unfold nT; split; omega; split; omega; split; omega; split <;> omega
theorem nT_in (k j i : Int) (h1 : 4352 ≤ k) (h2 : k < 4371) (h3 : 4449 ≤ j) (h4 : j < 4470) (h5 : 4519 ≤ i) (h6 : i < 4547) : nT k j (i + 1) = nT k j i + 1 := by
  unfold nT
  rw [if_neg (by omega), if_neg (by omega), if_neg (by omega), if_neg (by omega), if_neg (by omega), if_neg (by omega), if_neg (by omega), if_neg (by omega), clamp_mid _ _ (by omega) (by omega), clamp_mid _ _ (by omega) (by omega)]; omega
theorem nT_out (k j i : Int) (h : k < 4352 ∨ 4371 ≤ k ∨ j < 4449 ∨ 4470 ≤ j ∨ i < 4519 ∨ 4547 ≤ i) : nT k j (i + 1) = nT k j i := by
  unfold nT
  split; rfl; split; rfl; split; rfl; split; rfl
  have h : i < 4519 ∨ 4547 ≤ i := by omega
  rcases h with h | h
  · rw [clamp_low _ _ (by omega) (by omega), clamp_low _ _ (by omega) (by omega)]
  · rw [clamp_high _ _ (by omega) (by omega), clamp_high _ _ (by omega) (by omega)]
theorem nT_end (k j : Int) : nV k j + nT k j 4550 = nV k (j + 1) := by
  unfold nV nT
  split; rfl; split; rfl
  rw [clamp_high (4550 - 4519) 28 (by omega) (by omega)]
  by_cases h3 : j < 4449
  · rw [if_pos h3, clamp_low _ _ (by omega) (by omega), clamp_low _ _ (by omega) (by omega)]; rfl
  · rw [if_neg h3]
    by_cases h4 : 4470 ≤ j
    · rw [if_pos h4, clamp_high _ _ (by omega) (by omega), clamp_high _ _ (by omega) (by omega)]; rfl
    · rw [if_neg h4, clamp_mid _ _ (by omega) (by omega), clamp_mid _ _ (by omega) (by omega)]; omega
theorem nV_end (A k : Int) (hA : A ≤ k) : 588 * cL A k + nV k 4480 = 588 * cL A (k + 1) := by
  unfold nV
  by_cases h : k < 4352
  · rw [if_pos h, cL_out A k hA (.inl h)]; omega
  · rw [if_neg h]
    by_cases h2 : 4371 ≤ k
    · rw [if_pos h2, cL_out A k hA (.inr h2)]; omega
    · rw [if_neg h2, clamp_high _ _ (by omega) (by omega), (cL_in A k hA (by omega) (by omega)).1]; omega
set_option maxRecDepth 100000 in
set_option maxHeartbeats 2000000 in
theorem law_syllables (A0 M0 : Int) (w : World) (h1 : -2147483648 ≤ A0) (h2 : A0 ≤ 2147483647) (h3 : -2147483648 ≤ M0) (h4 : M0 ≤ 2147483647) :
    Calls Try.prog 4 #[.int .i32 A0, .int .i32 M0] w fun e w' => e = .returned (.bool true) ∧ Below w.heap.size w w' := by
  have KA := awake_any w
  obtain ⟨A, hA⟩ : ∃ A : Int, (A0 < 4300 ∧ A = 4300) ∨ (4300 ≤ A0 ∧ A = A0) := by
    by_cases h : A0 < 4300
    · exact ⟨4300, .inl ⟨h, rfl⟩⟩
    · exact ⟨A0, .inr ⟨by omega, rfl⟩⟩
  obtain ⟨M, hM⟩ : ∃ M : Int, (M0 < 4400 ∧ M = M0) ∨ (4400 ≤ M0 ∧ M = 4400) := by
    by_cases h : M0 < 4400
    · exact ⟨M0, .inl ⟨h, rfl⟩⟩
    · exact ⟨4400, .inr ⟨by omega, rfl⟩⟩
  have HA : Hid ((A0 < 4300 ∧ A = 4300) ∨ (4300 ≤ A0 ∧ A = A0)) := hA
  have HM : Hid ((M0 < 4400 ∧ M = M0) ∨ (4400 ≤ M0 ∧ M = 4400)) := hM
  clear hA hM
  go_enter Try.func4, Try.ntmps4
  go_wp2_with (go_at_call 5; refine KA.mono ?_)
  first | rintro e w1 rfl b1 | rintro e w1 ⟨rfl, b1⟩
  have B1 : Hid (Below w.heap.size w w1) := b1
  clear b1 KA
  go_wp2
  all_goals
    go_loopw [5, 6] (fun n l wr => ∃ k : Int, n = .int .i64 (588 * cL A k) ∧ l = .int .i32 k ∧ A ≤ k ∧ Hid (k = A ∨ k ≤ M) ∧ Hid (Below w.heap.size w wr)) (fun _ l _ => (4400 - RowKit.intOf l).toNat)
    case atStart =>
      have := HA.out
      first
        | exact ⟨A0, by rw [show A = A0 by omega, cL_start]; rfl, rfl, by omega, .inl (by omega), B1⟩
        | exact ⟨4300, by rw [show A = 4300 by omega, cL_start]; rfl, rfl, by omega, .inl (by omega), B1⟩
    case round =>
      obtain ⟨k, rfl, rfl, hAk, HKM, HB⟩ := hrel
      by_cases hm : M0 ≤ 4400
      · by_cases hl : k < M0
        · have hk1 : 4300 ≤ k := by have := HA.out; omega
          have hk2 : k < 4400 := by omega
          go_wp2
          go_loopw [5, 7] (fun n v wr => ∃ j : Int, n = .int .i64 (588 * cL A k + nV k j) ∧ v = .int .i32 j ∧ 4440 ≤ j ∧ j ≤ 4480 ∧ Hid (Below w.heap.size w wr)) (fun _ v _ => (4480 - RowKit.intOf v).toNat)
          case atStart => exact ⟨4440, by rw [nV_start, Int.add_zero], rfl, by omega, by omega, HB⟩
          case round =>
            obtain ⟨j, rfl, rfl, hj1, hj2, HD⟩ := hrel
            by_cases hj : j < 4480
            · go_wp2
              go_loopw [5, 8] (fun n t wr => ∃ i : Int, n = .int .i64 (588 * cL A k + nV k j + nT k j i) ∧ t = .int .i32 i ∧ 4518 ≤ i ∧ i ≤ 4550 ∧ Hid (Below w.heap.size w wr)) (fun _ t _ => (4550 - RowKit.intOf t).toNat)
              case atStart => exact ⟨4518, by rw [nT_start, Int.add_zero], rfl, by omega, by omega, HD⟩
              case round =>
                obtain ⟨i, rfl, rfl, hi1, hi2, HC⟩ := hrel
                obtain ⟨N, hN⟩ : ∃ N, N = 588 * cL A k + nV k j + nT k j i := ⟨_, rfl⟩
                have hN0 : 0 ≤ N := by have := cL_range A k; have := nV_range k j; have := nT_range k j i; omega
                have hN1 : N ≤ 12000 := by have := cL_range A k; have := nV_range k j; have := nT_range k j i; omega
                rw [← hN]
                have HN : Hid (N = 588 * cL A k + nV k j + nT k j i) := hN
                clear hN
                by_cases hi : i < 4550
                · by_cases hx : i = 4519
                  · by_cases hv : 4352 ≤ k ∧ k < 4371 ∧ 4449 ≤ j ∧ j < 4470
                    · have hxb : (i == 4519) = true := by rw [hx]; rfl
                      have KH := fun W => han_yes k j 0 (k - 4352) (j - 4449) (i - 4519) W (by omega) (by omega) (by unfold tJ; split <;> omega) (by omega) (by omega) (by omega) (by omega) (by omega) (by omega)
                      have KS := fun W => syl_yes (44032 + 588 * (k - 4352) + 28 * (j - 4449) + (i - 4519)) (k - 4352) (j - 4449) (i - 4519) W rfl (by omega) (by omega) (by omega) (by omega) (by omega) (by omega)
                      rw [show 4352 + (k - 4352) = k by omega, show 4449 + (j - 4449) = j by omega, show tJ (i - 4519) = 0 by unfold tJ; split <;> omega] at KS
                      have HN' : Hid (N + 1 = 588 * cL A k + nV k j + nT k j (i + 1)) := by unfold Hid; rw [nT_in k j i (by omega) (by omega) (by omega) (by omega) (by omega) (by omega), HN.out]; omega
                      generalize 44032 + 588 * (k - 4352) + 28 * (j - 4449) + (i - 4519) = p at *
                      clear hv
                      go_wp2_with (first | (go_at_call 8; refine (KH _).mono ?_; rintro e w' ⟨rfl, rfl⟩) | (go_at_call 6; refine (KS _).mono ?_; rintro e w' ⟨rfl, rfl⟩))
                      exact ⟨⟨i + 1, by rw [← HN'.out], by go_num, by omega, by omega, HC⟩, by simp [RowKit.intOf]; omega⟩
                    · have hxb : (i == 4519) = true := by rw [hx]; rfl
                      have KH := fun W => han_no k j 0 W (by omega) (by omega) (by omega) (by omega) (by omega) (by omega) (by omega)
                      have HN' : Hid (N = 588 * cL A k + nV k j + nT k j (i + 1)) := by unfold Hid; rw [nT_out k j i (by omega), HN.out]
                      clear hv
                      go_wp2_with (first | (go_at_call 8; refine (KH _).mono ?_; rintro e w' ⟨rfl, rfl⟩))
                      exact ⟨⟨i + 1, by rw [← HN'.out], by go_num, by omega, by omega, HC⟩, by simp [RowKit.intOf]; omega⟩
                  · have hxb : (i == 4519) = false := beq_false_of_ne hx
                    by_cases hv : 4352 ≤ k ∧ k < 4371 ∧ 4449 ≤ j ∧ j < 4470 ∧ 4519 ≤ i ∧ i < 4547
                    · have KH := fun W => han_yes k j i (k - 4352) (j - 4449) (i - 4519) W (by omega) (by omega) (by unfold tJ; split <;> omega) (by omega) (by omega) (by omega) (by omega) (by omega) (by omega)
                      have KS := fun W => syl_yes (44032 + 588 * (k - 4352) + 28 * (j - 4449) + (i - 4519)) (k - 4352) (j - 4449) (i - 4519) W rfl (by omega) (by omega) (by omega) (by omega) (by omega) (by omega)
                      rw [show 4352 + (k - 4352) = k by omega, show 4449 + (j - 4449) = j by omega, show tJ (i - 4519) = i by unfold tJ; split <;> omega] at KS
                      have HN' : Hid (N + 1 = 588 * cL A k + nV k j + nT k j (i + 1)) := by unfold Hid; rw [nT_in k j i (by omega) (by omega) (by omega) (by omega) (by omega) (by omega), HN.out]; omega
                      generalize 44032 + 588 * (k - 4352) + 28 * (j - 4449) + (i - 4519) = p at *
                      clear hv
                      go_wp2_with (first | (go_at_call 8; refine (KH _).mono ?_; rintro e w' ⟨rfl, rfl⟩) | (go_at_call 6; refine (KS _).mono ?_; rintro e w' ⟨rfl, rfl⟩))
                      exact ⟨⟨i + 1, by rw [← HN'.out], by go_num, by omega, by omega, HC⟩, by simp [RowKit.intOf]; omega⟩
                    · have KH := fun W => han_no k j i W (by omega) (by omega) (by omega) (by omega) (by omega) (by omega) (by omega)
                      have HN' : Hid (N = 588 * cL A k + nV k j + nT k j (i + 1)) := by unfold Hid; rw [nT_out k j i (by omega), HN.out]
                      clear hv
                      go_wp2_with (first | (go_at_call 8; refine (KH _).mono ?_; rintro e w' ⟨rfl, rfl⟩))
                      exact ⟨⟨i + 1, by rw [← HN'.out], by go_num, by omega, by omega, HC⟩, by simp [RowKit.intOf]; omega⟩
                · have e : i = 4550 := by omega
                  subst e
                  have HN' : Hid (N = 588 * cL A k + nV k (j + 1)) := by unfold Hid; rw [← nT_end k j, HN.out]; omega
                  go_wp2
                  exact ⟨⟨j + 1, by rw [← HN'.out], by go_num, by omega, by omega, HC⟩, by simp [RowKit.intOf]; omega⟩
            · have e : j = 4480 := by omega
              subst e
              have HN' : Hid (588 * cL A k + nV k 4480 = 588 * cL A (k + 1)) := nV_end A k hAk
              go_wp2
              exact ⟨⟨k + 1, by rw [HN'.out], by go_num, by omega, .inr (by have := HM.out; omega), HD⟩, by simp [RowKit.intOf]; omega⟩
        · have hc0 := cL_range A k
          by_cases c1 : 4352 < A0
          · have hf := cL_few A k (.inl (by have := HA.out; omega))
            have hlt : 588 * cL A k < 11172 := by omega
            generalize 588 * cL A k = N at *
            go_wp2 <;> (go_ret; exact ⟨rfl, HB.out⟩)
          · by_cases c2 : M0 < 4371
            · have hf := cL_few A k (.inr (by have := HM.out; have := HKM.out; omega))
              have hlt : 588 * cL A k < 11172 := by omega
              generalize 588 * cL A k = N at *
              go_wp2 <;> (go_ret; exact ⟨rfl, HB.out⟩)
            · have hf := cL_all A k (by have := HA.out; omega) (by omega)
              rw [hf]
              go_wp2 <;> (go_ret; exact ⟨rfl, HB.out⟩)
      · have hm' : 4400 < M0 := by omega
        by_cases hl : k < 4400
        · have hk1 : 4300 ≤ k := by have := HA.out; omega
          have hk2 : k < 4400 := by omega
          go_wp2
          go_loopw [5, 7] (fun n v wr => ∃ j : Int, n = .int .i64 (588 * cL A k + nV k j) ∧ v = .int .i32 j ∧ 4440 ≤ j ∧ j ≤ 4480 ∧ Hid (Below w.heap.size w wr)) (fun _ v _ => (4480 - RowKit.intOf v).toNat)
          case atStart => exact ⟨4440, by rw [nV_start, Int.add_zero], rfl, by omega, by omega, HB⟩
          case round =>
            obtain ⟨j, rfl, rfl, hj1, hj2, HD⟩ := hrel
            by_cases hj : j < 4480
            · go_wp2
              go_loopw [5, 8] (fun n t wr => ∃ i : Int, n = .int .i64 (588 * cL A k + nV k j + nT k j i) ∧ t = .int .i32 i ∧ 4518 ≤ i ∧ i ≤ 4550 ∧ Hid (Below w.heap.size w wr)) (fun _ t _ => (4550 - RowKit.intOf t).toNat)
              case atStart => exact ⟨4518, by rw [nT_start, Int.add_zero], rfl, by omega, by omega, HD⟩
              case round =>
                obtain ⟨i, rfl, rfl, hi1, hi2, HC⟩ := hrel
                obtain ⟨N, hN⟩ : ∃ N, N = 588 * cL A k + nV k j + nT k j i := ⟨_, rfl⟩
                have hN0 : 0 ≤ N := by have := cL_range A k; have := nV_range k j; have := nT_range k j i; omega
                have hN1 : N ≤ 12000 := by have := cL_range A k; have := nV_range k j; have := nT_range k j i; omega
                rw [← hN]
                have HN : Hid (N = 588 * cL A k + nV k j + nT k j i) := hN
                clear hN
                by_cases hi : i < 4550
                · by_cases hx : i = 4519
                  · by_cases hv : 4352 ≤ k ∧ k < 4371 ∧ 4449 ≤ j ∧ j < 4470
                    · have hxb : (i == 4519) = true := by rw [hx]; rfl
                      have KH := fun W => han_yes k j 0 (k - 4352) (j - 4449) (i - 4519) W (by omega) (by omega) (by unfold tJ; split <;> omega) (by omega) (by omega) (by omega) (by omega) (by omega) (by omega)
                      have KS := fun W => syl_yes (44032 + 588 * (k - 4352) + 28 * (j - 4449) + (i - 4519)) (k - 4352) (j - 4449) (i - 4519) W rfl (by omega) (by omega) (by omega) (by omega) (by omega) (by omega)
                      rw [show 4352 + (k - 4352) = k by omega, show 4449 + (j - 4449) = j by omega, show tJ (i - 4519) = 0 by unfold tJ; split <;> omega] at KS
                      have HN' : Hid (N + 1 = 588 * cL A k + nV k j + nT k j (i + 1)) := by unfold Hid; rw [nT_in k j i (by omega) (by omega) (by omega) (by omega) (by omega) (by omega), HN.out]; omega
                      generalize 44032 + 588 * (k - 4352) + 28 * (j - 4449) + (i - 4519) = p at *
                      clear hv
                      go_wp2_with (first | (go_at_call 8; refine (KH _).mono ?_; rintro e w' ⟨rfl, rfl⟩) | (go_at_call 6; refine (KS _).mono ?_; rintro e w' ⟨rfl, rfl⟩))
                      exact ⟨⟨i + 1, by rw [← HN'.out], by go_num, by omega, by omega, HC⟩, by simp [RowKit.intOf]; omega⟩
                    · have hxb : (i == 4519) = true := by rw [hx]; rfl
                      have KH := fun W => han_no k j 0 W (by omega) (by omega) (by omega) (by omega) (by omega) (by omega) (by omega)
                      have HN' : Hid (N = 588 * cL A k + nV k j + nT k j (i + 1)) := by unfold Hid; rw [nT_out k j i (by omega), HN.out]
                      clear hv
                      go_wp2_with (first | (go_at_call 8; refine (KH _).mono ?_; rintro e w' ⟨rfl, rfl⟩))
                      exact ⟨⟨i + 1, by rw [← HN'.out], by go_num, by omega, by omega, HC⟩, by simp [RowKit.intOf]; omega⟩
                  · have hxb : (i == 4519) = false := beq_false_of_ne hx
                    by_cases hv : 4352 ≤ k ∧ k < 4371 ∧ 4449 ≤ j ∧ j < 4470 ∧ 4519 ≤ i ∧ i < 4547
                    · have KH := fun W => han_yes k j i (k - 4352) (j - 4449) (i - 4519) W (by omega) (by omega) (by unfold tJ; split <;> omega) (by omega) (by omega) (by omega) (by omega) (by omega) (by omega)
                      have KS := fun W => syl_yes (44032 + 588 * (k - 4352) + 28 * (j - 4449) + (i - 4519)) (k - 4352) (j - 4449) (i - 4519) W rfl (by omega) (by omega) (by omega) (by omega) (by omega) (by omega)
                      rw [show 4352 + (k - 4352) = k by omega, show 4449 + (j - 4449) = j by omega, show tJ (i - 4519) = i by unfold tJ; split <;> omega] at KS
                      have HN' : Hid (N + 1 = 588 * cL A k + nV k j + nT k j (i + 1)) := by unfold Hid; rw [nT_in k j i (by omega) (by omega) (by omega) (by omega) (by omega) (by omega), HN.out]; omega
                      generalize 44032 + 588 * (k - 4352) + 28 * (j - 4449) + (i - 4519) = p at *
                      clear hv
                      go_wp2_with (first | (go_at_call 8; refine (KH _).mono ?_; rintro e w' ⟨rfl, rfl⟩) | (go_at_call 6; refine (KS _).mono ?_; rintro e w' ⟨rfl, rfl⟩))
                      exact ⟨⟨i + 1, by rw [← HN'.out], by go_num, by omega, by omega, HC⟩, by simp [RowKit.intOf]; omega⟩
                    · have KH := fun W => han_no k j i W (by omega) (by omega) (by omega) (by omega) (by omega) (by omega) (by omega)
                      have HN' : Hid (N = 588 * cL A k + nV k j + nT k j (i + 1)) := by unfold Hid; rw [nT_out k j i (by omega), HN.out]
                      clear hv
                      go_wp2_with (first | (go_at_call 8; refine (KH _).mono ?_; rintro e w' ⟨rfl, rfl⟩))
                      exact ⟨⟨i + 1, by rw [← HN'.out], by go_num, by omega, by omega, HC⟩, by simp [RowKit.intOf]; omega⟩
                · have e : i = 4550 := by omega
                  subst e
                  have HN' : Hid (N = 588 * cL A k + nV k (j + 1)) := by unfold Hid; rw [← nT_end k j, HN.out]; omega
                  go_wp2
                  exact ⟨⟨j + 1, by rw [← HN'.out], by go_num, by omega, by omega, HC⟩, by simp [RowKit.intOf]; omega⟩
            · have e : j = 4480 := by omega
              subst e
              have HN' : Hid (588 * cL A k + nV k 4480 = 588 * cL A (k + 1)) := nV_end A k hAk
              go_wp2
              exact ⟨⟨k + 1, by rw [HN'.out], by go_num, by omega, .inr (by have := HM.out; omega), HD⟩, by simp [RowKit.intOf]; omega⟩
        · have hc0 := cL_range A k
          by_cases c1 : 4352 < A0
          · have hf := cL_few A k (.inl (by have := HA.out; omega))
            have hlt : 588 * cL A k < 11172 := by omega
            generalize 588 * cL A k = N at *
            go_wp2 <;> (go_ret; exact ⟨rfl, HB.out⟩)
          · by_cases c2 : M0 < 4371
            · have hf := cL_few A k (.inr (by have := HM.out; have := HKM.out; omega))
              have hlt : 588 * cL A k < 11172 := by omega
              generalize 588 * cL A k = N at *
              go_wp2 <;> (go_ret; exact ⟨rfl, HB.out⟩)
            · have hf := cL_all A k (by have := HA.out; omega) (by omega)
              rw [hf]
              go_wp2 <;> (go_ret; exact ⟨rfl, HB.out⟩)
end Go.Proofs.Ytdjdbabhcdfecaa
