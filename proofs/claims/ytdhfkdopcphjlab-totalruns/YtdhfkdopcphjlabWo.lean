/-
  The contracts of wordAt and anyBelow: the bits of a row of words from a place on, whether anything stands below. Conditions: the words are of 64 bits; the place lies ahead of the last word.
-/
import Derived.Test.YtdhfkdopcphjlabLn
import Derived.BigQuiet
import Derived.Deep.QuietTactic
import Derived.Laws.BitsAllLaws
namespace Go.Proofs.Ytdhfkdopcphjlab
open Go.RowKit
attribute [local go_sem] rowW_size
theorem shr_nat (x s : Nat) : (x : Int) / 2 ^ s = ((x / 2 ^ s : Nat) : Int) := by rw [Int.natCast_ediv, Int.natCast_pow]; rfl
theorem shl_nat (x s : Nat) : IntKind.u64.wrap ((x : Int) * 2 ^ s) = ((x * 2 ^ s % 18446744073709551616 : Nat) : Int) := by
  have : (x : Int) * 2 ^ s = ((x * 2 ^ s : Nat) : Int) := by rw [Int.natCast_mul, Int.natCast_pow]; rfl
  rw [this, IntKind.wrap_u64]
  omega
theorem or_parts (x y s : Nat) (hs : s < 64) (hx : x < 18446744073709551616) : bits .or .u64 ((x / 2 ^ s : Nat) : Int) ((y * 2 ^ (64 - s) % 18446744073709551616 : Nat) : Int) = ((x / 2 ^ s + y * 2 ^ (64 - s) % 18446744073709551616 : Nat) : Int) := by
  have e3 : (18446744073709551616 : Nat) = 2 ^ s * 2 ^ (64 - s) := by rw [← Nat.pow_add, show s + (64 - s) = 64 by omega]
  have hq : x / 2 ^ s < 2 ^ (64 - s) := Nat.div_lt_of_lt_mul (by rw [← e3]; exact hx)
  have hq2 : x / 2 ^ s ≤ x := Nat.div_le_self _ _
  rw [u64_or_nat _ _ (by omega) (by omega), Nat.or_comm, nat_join (64 - s) _ _ (by rw [low_up _ _ (by omega)]; exact Nat.mul_mod_left _ _) hq, Nat.add_comm]
set_option maxRecDepth 100000 in
set_option maxHeartbeats 400000 in
theorem wordAt_any (W : Nat → Nat) (i s : Nat) (w : World) (hi : i + 1 < 66) (hs : s < 64) (hW : ∀ j, W j < 18446744073709551616) : Calls Try.prog 93 #[.agg (rowW W), .int .i64 ((64 * i + s : Nat) : Int)] w fun e w' => e = .returned (.int .u64 (val W 66 / 2 ^ (64 * i + s) % 18446744073709551616 : Nat)) ∧ Below w.heap.size w w' := by
  have e1 : ((64 * i + s : Nat) : Int).tdiv 64 = (i : Int) := by rw [Int.tdiv_eq_ediv_of_nonneg (by omega)]; omega
  have e2 : ((64 * i + s : Nat) : Int).tmod 64 = (s : Int) := by rw [Int.tmod_eq_emod_of_nonneg (by omega)]; omega
  have c1 := cell_new w W i (by omega)
  have c2 := cell_new w W (i + 1) (by omega)
  have h1 := hW i
  have HO := or_parts (W i) (W (i + 1)) s hs h1
  have hsr := shr_nat (W i) s
  have hsl := shl_nat (W (i + 1)) (64 - s)
  rw [word_at hi hs (fun j _ => hW j)]
  have hi2 : (i : Int) + 1 < 66 := by omega
  have hs2 : (s : Int) < 64 := by omega
  go_enter Try.func93, Try.ntmps93
  generalize ((64 * i + s : Nat) : Int) = F at *
  generalize W i / 2 ^ s + W (i + 1) * 2 ^ (64 - s) % 18446744073709551616 = R at *
  generalize W i / 2 ^ s = A at *
  generalize W (i + 1) * 2 ^ (64 - s) % 18446744073709551616 = B at *
  go_wp2_with fail
  go_quiet (fail)
  go_wp2
  go_ret
  exact ⟨rfl, ((Below.refl _ _).alloc (Nat.le_refl _) _).trans ⟨rfl, rfl, rfl, Nat.le_refl _, fun _ _ => rfl⟩⟩
set_option maxRecDepth 100000 in
set_option maxHeartbeats 400000 in
theorem anyBelow_any (W : Nat → Nat) (i s : Nat) (w : World) (hi : i < 66) (hs : s < 64) (hW : ∀ j, W j < 18446744073709551616) : Calls Try.prog 94 #[.agg (rowW W), .int .i64 ((64 * i + s : Nat) : Int)] w fun e w' => e = .returned (.bool (decide (val W 66 % 2 ^ (64 * i + s) ≠ 0))) ∧ Below w.heap.size w w' := by
  have e1 : ((64 * i + s : Nat) : Int).tdiv 64 = (i : Int) := by rw [Int.tdiv_eq_ediv_of_nonneg (by omega)]; omega
  have e2 : ((64 * i + s : Nat) : Int).tmod 64 = (s : Int) := by rw [Int.tmod_eq_emod_of_nonneg (by omega)]; omega
  have hAB := any_below hi hs (fun j _ => hW j)
  obtain ⟨R, hR⟩ : ∃ R, decide (val W 66 % 2 ^ (64 * i + s) ≠ 0) = R := ⟨_, rfl⟩
  have HR : Hid (R = !decide ((∀ j, j < i → W j = 0) ∧ W i * 2 ^ (64 - s) % 18446744073709551616 = 0)) := by
    have e : (val W 66 % 2 ^ (64 * i + s) ≠ 0) = ¬ ((∀ j, j < i → W j = 0) ∧ W i * 2 ^ (64 - s) % 18446744073709551616 = 0) := propext (not_congr hAB)
    rw [← hR]
    by_cases c : (∀ j, j < i → W j = 0) ∧ W i * 2 ^ (64 - s) % 18446744073709551616 = 0
    · rw [decide_eq_true c, decide_eq_false (fun h => by rw [e] at h; exact h c)]; rfl
    · rw [decide_eq_false c, decide_eq_true (by rw [e]; exact c)]; rfl
  rw [hR]
  clear hR hAB
  have hi2 : (i : Int) ≤ 66 := by omega
  have hi3 : (i : Int) < 66 := by omega
  have hs2 : (s : Int) < 64 := by omega
  have c1 := cell_new w W i hi
  have hsl := shl_nat (W i) (64 - s)
  go_enter Try.func94, Try.ntmps94
  generalize ((64 * i + s : Nat) : Int) = F at *
  go_wp2_with fail
  go_loopw [11] (fun x wr => ∃ k : Nat, k ≤ i ∧ x = .int .i64 (k : Int) ∧ (Hid (∀ j, j < k → W j = 0)) ∧ wr = w.alloc (.cells (rowW W) 67)) (fun x _ => i - (intOf x).toNat)
  case atStart => exact ⟨0, by omega, rfl, fun j h1 => by omega, rfl⟩
  case round =>
    obtain ⟨k, hk, rfl, hz, rfl⟩ := hrel
    by_cases c : k < i
    · have ck := cell_new w W k (by omega)
      have hk2 : (k : Int) < (i : Int) := by omega
      by_cases h0 : W k = 0
      · rw [h0] at ck
        go_wp2
        refine ⟨⟨k + 1, by omega, by go_num, fun j h1 => ?_, trivial⟩, by simp [intOf]; omega⟩
        by_cases e : j = k
        · rw [e]; exact h0
        · exact hz.out j (by omega)
      · have h0' : ¬ ((W k : Nat) : Int) = 0 := by omega
        have HE : Hid (R = true) := by
          rw [show Hid _ = _ from rfl] at HR
          rw [HR, decide_eq_false (fun h => h0 (h.1 k c))]; rfl
        go_wp2
        go_ret
        rw [HE.out]
        exact ⟨rfl, (Below.refl _ _).alloc (Nat.le_refl _) _⟩
    · have hk2 : ¬ (k : Int) < (i : Int) := by omega
      have HE : Hid (R = !decide (W i * 2 ^ (64 - s) % 18446744073709551616 = 0)) := by
        have e : ((∀ j, j < i → W j = 0) ∧ W i * 2 ^ (64 - s) % 18446744073709551616 = 0) = (W i * 2 ^ (64 - s) % 18446744073709551616 = 0) := propext ⟨fun h => h.2, fun h => ⟨fun j hj => hz.out j (by omega), h⟩⟩
        have := HR.out
        simp only [e] at this
        exact this
      clear HR
      generalize W i * 2 ^ (64 - s) % 18446744073709551616 = B at *
      go_wp2
      go_ret
      rw [HE.out]
      refine ⟨?_, (Below.refl _ _).alloc (Nat.le_refl _) _⟩
      show Ending.returned (.bool ((B : Int) != 0)) = _
      by_cases c : B = 0
      · rw [c]; rfl
      · rw [decide_eq_false c, bne_iff_ne.2 (show (B : Int) ≠ 0 by omega)]; rfl
end Go.Proofs.Ytdhfkdopcphjlab
