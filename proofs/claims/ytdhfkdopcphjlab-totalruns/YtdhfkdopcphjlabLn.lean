/-
  The contracts of length, wordAt and anyBelow: how many bits a row of words has, its bits from a place on, whether anything stands below. Conditions: the words are of 64 bits; the place lies ahead of the last word.
-/
import Derived.Test.YtdhfkdopcphjlabCa
import Derived.Test.YtdhfkdopcphjlabRow
import Derived.Test.YtdhfkdopcphjlabCel
import Derived.KernelRfl
import Derived.BigRegion
namespace Go.Proofs.Ytdhfkdopcphjlab
open Go.RowKit
/-- The 66 words as a row. -/
def rowW (W : Nat → Nat) : Array Value := rowOf .u64 66 fun i => ((W i : Nat) : Int)
theorem rowW_get (W : Nat → Nat) (i : Nat) (h : i < 66) : (rowW W)[i]? = some (.int .u64 (W i : Nat)) := rowOf_get _ _ _ _ h
theorem rowW_size (W : Nat → Nat) : (rowW W).size = 66 := rowOf_size _ _ _
theorem bitLen_is : ∀ n : Nat, n < 18446744073709551616 → Lib.bitLen n = lenN n := by
  intro n
  induction n using Nat.strongRecOn with
  | _ n ih =>
    intro h
    by_cases c : n = 0
    · subst c; rfl
    · rw [Lib.bitLen_half n c h, ih (n / 2) (by omega) (by omega)]
      unfold lenN
      rw [if_neg c]
      by_cases d : n = 1
      · subst d; rfl
      · rw [if_neg (by omega), Nat.log2_def n, if_pos (by omega)]
        omega
theorem len64_any (n : Nat) (w : World) (h : n < 18446744073709551616) : Calls Try.prog 114 #[.int .u64 (n : Int)] w fun e w' => e = .returned (.int .i64 (lenN n : Nat)) ∧ w' = w := by
  have := Try.bits_Len64 (n : Int) w (by omega) (by omega)
  rw [Int.toNat_natCast, bitLen_is n h] at this
  exact this
theorem cell_new (w : World) (W : Nat → Nat) (k : Nat) (h : k < 66) : (w.alloc (.cells (rowW W) 67)).cell? ⟨w.heap.size, k, none⟩ = some (.int .u64 (W k : Nat)) := by
  rw [World.cell?_alloc_at _ _ _ _ rfl]
  exact rowW_get W k h
attribute [local go_sem] rowW_size
set_option maxRecDepth 100000 in
set_option maxHeartbeats 400000 in
theorem length_any (W : Nat → Nat) (w : World) (hW : ∀ j, W j < 18446744073709551616) : Calls Try.prog 92 #[.agg (rowW W)] w fun e w' => e = .returned (.int .i64 (lenN (val W 66) : Nat)) ∧ Below w.heap.size w w' := by
  obtain ⟨R, hR⟩ : ∃ R, lenN (val W 66) = R := ⟨_, rfl⟩
  rw [hR]
  have HR : Hid (lenN (val W 66) = R) := hR
  clear hR
  go_enter Try.func92, Try.ntmps92
  go_wp2_with fail
  go_loopw [3] (fun i wr => ∃ k : Nat, k ≤ 66 ∧ i = .int .i64 ((k : Int) - 1) ∧ (Hid (∀ j, k ≤ j → j < 66 → W j = 0)) ∧ wr = w.alloc (.cells (rowW W) 67)) (fun i _ => (intOf i + 1).toNat)
  case atStart => exact ⟨66, by omega, rfl, fun j h1 h2 => by omega, rfl⟩
  case round =>
    obtain ⟨k, hk, rfl, hz, rfl⟩ := hrel
    cases k with
    | zero =>
      have e : val W 66 = 0 := (val_zero 66).2 fun j hj => hz.out j (by omega) hj
      have HE : Hid (R = 0) := by rw [← HR.out, e]; rfl
      clear e
      go_wp2
      go_ret
      rw [HE.out]
      exact ⟨rfl, (Below.refl _ _).alloc (Nat.le_refl _) _⟩
    | succ k =>
      have hkl : k < 66 := by omega
      have hc := cell_new w W k hkl
      have hx : ((k + 1 : Nat) : Int) - 1 = (k : Int) := by omega
      rw [hx]
      have k65 : (k : Int) < 66 := by omega
      by_cases h0 : W k = 0
      · rw [h0] at hc
        go_wp2
        refine ⟨⟨k, by omega, rfl, fun j h1 h2 => ?_, trivial⟩, by simp [intOf]⟩
        by_cases e : j = k
        · rw [e]; exact h0
        · exact hz.out j (by omega) h2
      · have HE : Hid (R = k * 64 + lenN (W k)) := by rw [← HR.out]; exact len_words hkl (fun j _ => hW j) (fun j h1 h2 => hz.out j (by omega) h2) h0
        have hl : lenN (W k) ≤ 64 := lenN_mono (hW k)
        have HL := len64_any (W k) (w.alloc (.cells (rowW W) 67)) (hW k)
        have h0' : ¬ ((W k : Nat) : Int) = 0 := by omega
        generalize W k = x at *
        generalize lenN x = L at *
        clear hx hW hz
        go_wp2_with (go_at_call 114; refine HL.mono ?_)
        rintro e w' ⟨rfl, rfl⟩
        go_wp2
        go_ret
        rw [HE.out]
        refine ⟨?_, (Below.refl _ _).alloc (Nat.le_refl _) _⟩
        congr 2
end Go.Proofs.Ytdhfkdopcphjlab
