/-
  The contract of rounded: what a sum has met, and its whole number, as a float. Conditions: the sum lies in one block; its size is below 2^4213.
-/
import Derived.Test.YtdhfkdopcphjlabRm
namespace Go.Proofs.Ytdhfkdopcphjlab
open Go.RowKit
/-- How many bits are left out. -/
def cutF (N : Nat) : Nat := lenN N - 63
/-- The bits that are rounded, the last one 1 if more would follow. -/
def mantF (N : Nat) : Nat := if N % 2 ^ cutF N = 0 then N / 2 ^ cutF N else N / 2 ^ cutF N / 2 * 2 + 1
/-- A whole number of the least, rounded. -/
def rz (Z : Int) : Nat := (if Z < 0 then 9223372036854775808 else 0) + nearB 52 11 1023 (mantF Z.natAbs) ((cutF Z.natAbs : Int) - 2148)
/-- A sum as a float. -/
def exV (F : Fl) (Z : Int) : Nat :=
  if F.n = true then 9221120237041090561 else if F.a = true then (if F.l = true then 9221120237041090561 else 9218868437227405312) else if F.l = true then 18442240474082181120 else if (F.m && !F.o) = true then 9223372036854775808 else rz Z
theorem cut_lt (N : Nat) : N / 2 ^ cutF N < 9223372036854775808 := by
  refine Nat.div_lt_of_lt_mul ?_
  have h := lenN_lt N
  have : 2 ^ lenN N ≤ 2 ^ cutF N * 9223372036854775808 := by
    rw [show (9223372036854775808 : Nat) = 2 ^ 63 from rfl, ← Nat.pow_add]
    exact Nat.pow_le_pow_right (by omega) (by unfold cutF; omega)
  omega
theorem cut_pos {N : Nat} (h : N ≠ 0) : 0 < N / 2 ^ cutF N := by
  refine Nat.div_pos ?_ (Nat.two_pow_pos _)
  have h1 := lenN_le h
  have h2 : 2 ^ cutF N ≤ 2 ^ (lenN N - 1) := Nat.pow_le_pow_right (by omega) (by unfold cutF; omega)
  omega
theorem mant_lt (N : Nat) : mantF N < 9223372036854775808 := by
  have := cut_lt N
  unfold mantF
  split <;> omega
theorem mant_pos {N : Nat} (h : N ≠ 0) : 0 < mantF N := by
  have := cut_pos h
  unfold mantF
  split <;> omega
theorem mant_zero : mantF 0 = 0 := by decide
theorem top_abs (V r x P : Nat) (Z : Int) (hs : V = r + x * P) (hr : r < P) (hv : V < 18446744073709551616 * P) (hm : ((V : Nat) : Int) % ((18446744073709551616 * P : Nat) : Int) = Z % ((18446744073709551616 * P : Nat) : Int)) (hZ : Z.natAbs < 9007199254740992 * P) :
    (0 ≤ Z → x < 9223372036854775808 ∧ V = Z.natAbs) ∧ (Z < 0 → 9223372036854775808 ≤ x ∧ V + Z.natAbs = 18446744073709551616 * P) := by
  have hvm : ((V : Nat) : Int) % ((18446744073709551616 * P : Nat) : Int) = V := Int.emod_eq_of_lt (by omega) (by omega)
  rw [hvm] at hm
  refine ⟨fun h => ?_, fun h => ?_⟩
  · have : Z % ((18446744073709551616 * P : Nat) : Int) = Z := Int.emod_eq_of_lt h (by omega)
    rw [this] at hm
    refine ⟨?_, by omega⟩
    have : x * P < 9007199254740992 * P := by omega
    have := Nat.lt_of_mul_lt_mul_right this
    omega
  · have : Z % ((18446744073709551616 * P : Nat) : Int) = Z + ((18446744073709551616 * P : Nat) : Int) := by
      rw [← Int.add_emod_right]
      exact Int.emod_eq_of_lt (by omega) (by omega)
    rw [this] at hm
    refine ⟨?_, by omega⟩
    have h7 : (x + 1) * P = x * P + P := Nat.succ_mul x P
    have h6 : 18437736874454810624 * P < (x + 1) * P := by omega
    have := Nat.lt_of_mul_lt_mul_right h6
    omega
theorem pow_up (n m : Nat) (h : m = 64 * (n + 1)) : 2 ^ m = 18446744073709551616 * 2 ^ (64 * n) := by subst h; exact pow64 n
theorem pow_53 (n m : Nat) (h : m = 53 + n) : 2 ^ m = 9007199254740992 * 2 ^ n := by subst h; rw [Nat.pow_add]
theorem val_succ (W : Nat → Nat) (n : Nat) : val W (n + 1) = val W n + W n * 2 ^ (64 * n) := rfl
/-- The words' sign. -/
theorem top_word {W : Nat → Nat} {Z : Int} (hW : ∀ i, W i < 18446744073709551616) (hm : ((val W 66 : Nat) : Int) % (2 ^ 4224 : Nat) = Z % (2 ^ 4224 : Nat)) (hZ : Z.natAbs < 2 ^ 4213) :
    (0 ≤ Z → W 65 < 9223372036854775808 ∧ val W 66 = Z.natAbs) ∧ (Z < 0 → 9223372036854775808 ≤ W 65 ∧ val W 66 + Z.natAbs = 2 ^ 4224) := by
  have hv := val_lt (W := W) 66 fun i _ => hW i
  have h5 := val_lt (W := W) 65 fun i _ => hW i
  rw [pow_up 65 4224 rfl] at hm ⊢
  rw [pow_53 (64 * 65) 4213 rfl] at hZ
  rw [pow_up 65 (64 * 66) rfl] at hv
  have hs := val_succ W 65
  generalize 2 ^ (64 * 65) = P at *
  exact top_abs _ _ _ P Z hs h5 hv hm hZ
/-- The sum's size and its sign. -/
theorem sized_sum {w : World} {b : Nat} {t : TypeId} {R : Nat → Option Value} {F : Fl} {Z : Int} (hE : ExAt w b t R F Z) (hZ : Z.natAbs < 2 ^ 4213) : Calls Try.prog 91 #[.pointer (some ⟨b, 0, none⟩)] w fun e w' => ∃ U, e = .returned (.tuple #[.agg (rowW U), .bool (decide (Z < 0))]) ∧ ((∀ j, U j < 18446744073709551616) ∧ val U 66 = Z.natAbs) ∧ Below w.heap.size w w' := by
  obtain ⟨cs, W, h1, h2, h3, h4, h5⟩ := hE
  have hw : Wd w b W := ⟨_, _, h1, by rw [mkW_size]; have := h3.1; omega, fun j hj => mkW_low cs W j hj (by have := h3.1; omega)⟩
  obtain ⟨t1, t2⟩ := top_word h2 h5 hZ
  by_cases c : Z < 0
  · obtain ⟨c1, c2⟩ := t2 c
    rw [decide_eq_true c]
    refine (sized_turned W b w hw h2 c1).mono ?_
    rintro e w' ⟨U, rfl, u1, u2, u3⟩
    refine ⟨U, rfl, ⟨u1, ?_⟩, u3⟩
    have := u2.trans c2.symm
    generalize val U 66 = x at *
    generalize val W 66 = y at *
    clear u2 c2 h5 hZ t1 t2
    omega
  · obtain ⟨c1, c2⟩ := t1 (by clear h5 hZ; omega)
    rw [decide_eq_false c]
    refine (sized_plain W b w hw c1).mono ?_
    rintro e w' ⟨rfl, u3⟩
    exact ⟨W, rfl, ⟨h2, c2⟩, u3⟩
theorem len_4213 {N : Nat} (h : N < 2 ^ 4213) : lenN N ≤ 4213 := lenN_mono h
set_option maxHeartbeats 1000000 in
theorem sumR_any (b : Nat) (t : TypeId) (R : Nat → Option Value) (F : Fl) (Z : Int) (w : World) (hE : ExAt w b t R F Z) (hZ : Z.natAbs < 2 ^ 4213) :
    Calls Try.prog 52 #[.pointer (some ⟨b, 0, none⟩)] w fun e w' => e = .returned (.float .f64 (exV F Z)) ∧ Below w.heap.size w w' := by
  obtain ⟨f1, f2, f3, f4, f5⟩ := hE.flags
  have k58 := sized_sum hE hZ
  have hl := len_4213 hZ
  clear hE hZ
  obtain ⟨Fn, Fa, Fb, Fm, Fo⟩ := F
  unfold exV
  dsimp only at *
  cases Fn
  · cases Fa
    · cases Fb
      · rw [if_neg (by decide), if_neg (by decide), if_neg (by decide)]
        cases hmo : Fm && !Fo
        · rw [if_neg (by decide)]
          refine rd_0 b Fm Fo w f1 f2 f3 f4 f5 hmo fun a ha => ?_
          refine rd_1 b (decide (Z < 0)) _ a w k58 (fun U a w1 g hU B1 r1 ha => ?_) ha
          obtain ⟨hU, hN⟩ := hU
          obtain ⟨N, hNN⟩ : ∃ N, Z.natAbs = N := ⟨_, rfl⟩
          rw [hNN] at hN hl
          have hf : (cutF N : Int) = max ((lenN N : Int) - 63) 0 := by unfold cutF; omega
          have hf2 : cutF N ≤ 4150 := by unfold cutF; omega
          have k59 := fun w => length_any U w hU
          rw [hN] at k59
          refine rd_2 g (lenN N) (cutF N) (decide (Z < 0)) U a w1 r1 (by omega) hf k59 (fun a w2 B2 ha => ?_) ha
          have r2 := (B2.block g (Array.getElem?_eq_some_iff.1 r1).1).trans r1
          have hsp : 64 * (cutF N / 64) + cutF N % 64 = cutF N := by omega
          have k60 := fun w => wordAt_any U (cutF N / 64) (cutF N % 64) w (by omega) (by omega) hU
          have k61 := fun w => anyBelow_any U (cutF N / 64) (cutF N % 64) w (by omega) (by omega) hU
          rw [hsp, hN] at k60 k61
          have hc := cut_lt N
          rw [Nat.mod_eq_of_lt (show N / 2 ^ cutF N < 18446744073709551616 by omega)] at k60
          refine rd_3 g (cutF N) (N / 2 ^ cutF N) (decide (Z < 0)) U a w2 r2 hc k60 (fun a w3 B3 ha => ?_) ha
          have r3 := (B3.block g (Array.getElem?_eq_some_iff.1 r2).1).trans r2
          refine rd_4 g (cutF N) (N / 2 ^ cutF N) (decide (Z < 0)) _ U a w3 r3 hc k61 (fun a w4 B4 ha => ?_) ha
          have hm : (if decide (N % 2 ^ cutF N ≠ 0) = true then N / 2 ^ cutF N / 2 * 2 + 1 else N / 2 ^ cutF N) = mantF N := by
            unfold mantF
            by_cases c : N % 2 ^ cutF N = 0
            · rw [if_pos c, if_neg (by simp [c])]
            · rw [if_neg c, if_pos (by simp [c])]
          rw [hm] at ha
          have hml := mant_lt N
          have k62 : ∀ w, Calls Try.prog 95 #[.int .i64 (if decide (Z < 0) = true then -((mantF N : Nat) : Int) else ((mantF N : Nat) : Int)), .int .i64 ((cutF N : Int) - 2148)] w fun e w' => e = .returned (.float .f64 (rz Z)) ∧ Below w.heap.size w w' := fun w => by
            have hv : (if decide (Z < 0) = true then -((mantF N : Nat) : Int) else ((mantF N : Nat) : Int)).natAbs = mantF N := by split <;> omega
            have hs : ((if decide (Z < 0) = true then -((mantF N : Nat) : Int) else ((mantF N : Nat) : Int)) < 0) = (Z < 0) := by
              by_cases c : Z < 0
              · have : 0 < mantF N := mant_pos (by omega)
                rw [if_pos (by simpa using c)]
                exact propext ⟨fun _ => c, fun _ => by omega⟩
              · rw [if_neg (by simpa using c)]
                exact propext ⟨fun h => by omega, fun h => absurd h c⟩
            have := near_any (if decide (Z < 0) = true then -((mantF N : Nat) : Int) else ((mantF N : Nat) : Int)) ((cutF N : Int) - 2148) w (by split <;> omega) (by split <;> omega)
            rw [hv, show min (max ((cutF N : Int) - 2148) (-4096)) 4096 = (cutF N : Int) - 2148 by omega] at this
            simp only [hs] at this
            unfold rz
            rw [hNN]
            exact this
          refine rd_5 (cutF N) (mantF N) (decide (Z < 0)) (rz Z) a w4 hml (by omega) k62 (fun w5 B5 => ?_) ha
          have B2' := B1.trans (B2.mono B1.size)
          have B3' := B2'.trans (B3.mono B2'.size)
          have B4' := B3'.trans (B4.mono B3'.size)
          exact ⟨rfl, B4'.trans (B5.mono B4'.size)⟩
        · rw [if_pos rfl]
          have h1 : Fm = true := by cases Fm <;> simp_all
          have h2 : Fo = false := by cases Fo <;> simp_all
          subst h1 h2
          exact rd_m b w f1 f2 f3 f4 f5
      · rw [if_neg (by decide), if_neg (by decide), if_pos rfl]
        exact rd_l b w f1 f2 f3
    · cases Fb
      · rw [if_neg (by decide), if_pos rfl, if_neg (by decide)]
        exact rd_a b w f1 f2 f3
      · rw [if_neg (by decide), if_pos rfl, if_pos rfl]
        exact rd_al b w f1 f2 f3
  · rw [if_pos rfl]
    exact rd_n b w f1
end Go.Proofs.Ytdhfkdopcphjlab
