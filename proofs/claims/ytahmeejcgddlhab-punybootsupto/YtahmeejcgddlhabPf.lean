/-
  The descent to a marked place, with the library's count of bits. Conditions: sizes that fit.
-/
import Derived.Shelf.Strconv.Itoa0
import Derived.Test.YtahmeejcgddlhabPe
namespace Go.Proofs.Ytahmeejcgddlhab
open Go.RowKit
open Go.Shelf
def lays129_ren : Go.Shelf.Ren := ⟨fun | 129 => 60 | n => n, fun | 53 => 91 | 3 => 3 | 4 => 4 | 46 => 84 | 5 => 5 | 9 => 9 | n => n, fun | n => n⟩
theorem lays129 : Go.Proofs.Lays.n129 Try.prog lays129_ren := {
  mixed := by kernel_rfl
  f129 := Try.func60.trans (congrArg some (by kernel_rfl))
  t3 := Try.underlying3
  a3 := Try.isAgg3
  z3 := Try.sizeOf3
  v3 := Try.zeroValue3
  t4 := Try.underlying4
  a4 := Try.isAgg4
  z4 := Try.sizeOf4
  v4 := Try.zeroValue4
  t5 := Try.underlying5
  a5 := Try.isAgg5
  z5 := Try.sizeOf5
  v5 := Try.zeroValue5
  t9 := Try.underlying9
  a9 := Try.isAgg9
  z9 := Try.sizeOf9
  v9 := Try.zeroValue9
  t46 := Try.underlying84
  a46 := Try.isAgg84
  z46 := Try.sizeOf84
  v46 := Try.zeroValue84
  t53 := Try.underlying91
  a53 := Try.isAgg91
  z53 := Try.sizeOf91
  v53 := Try.zeroValue91 }
theorem len64_any (n : Nat) (w : World) (h : n < 18446744073709551616) : Calls Try.prog 60 #[.int .u64 (n : Int)] w fun e w' => e = .returned (.int .i64 (Lib.bitLen n : Nat)) ∧ w' = w := by
  have := Any.bits_Len64 lays129 (n : Int) w (by omega) (by omega)
  rw [Int.toNat_natCast] at this
  exact this
set_option maxRecDepth 100000 in
theorem len_any (n : Nat) (w : World) (h : n < 4294967296) : Calls Try.prog 55 #[.int .u64 (n : Int)] w fun e w' => e = .returned (.int .i64 (Lib.bitLen n : Nat)) ∧ w' = w := by
  have k1 := fun w => len64_any n w (by omega)
  have h0 : (n : Int) < 4294967296 := by omega
  have h1 : 0 ≤ (n : Int) := by omega
  clear h
  generalize ((Lib.bitLen n : Nat) : Int) = L at *
  generalize (n : Int) = N at *
  go_enter Try.func55, Try.ntmps55
  go_wp2_with (go_at_call 60; refine (k1 _).mono ?_; rintro e w' ⟨rfl, rfl⟩)
  go_ret
  exact ⟨rfl, rfl⟩
/-- The steps of the descent. -/
def stp : Nat → Nat
  | 0 => 0
  | k + 1 => 2 ^ k
theorem stp_half (t : Nat) : stp (t + 1) / 2 = stp t := by
  cases t with
  | zero => rfl
  | succ t => show 2 ^ (t + 1) / 2 = 2 ^ t; rw [Nat.pow_succ]; omega
theorem stp_pos (t : Nat) : 0 < stp (t + 1) := Nat.two_pow_pos t
theorem stp_le (t : Nat) (h : t ≤ 23) : stp t ≤ 4194304 := by
  cases t with
  | zero => exact Nat.zero_le _
  | succ t => exact Nat.le_trans (Nat.pow_le_pow_right (by omega) (show t ≤ 22 by omega)) (by decide)
theorem shl_one (L : Nat) (h : L ≤ 22) : wrap64 (2 ^ L) = ((stp (L + 1) : Nat) : Int) := by
  have e : (2 : Int) ^ L = ((stp (L + 1) : Nat) : Int) := by show _ = ((2 ^ L : Nat) : Int); rw [Int.natCast_pow]; rfl
  have b := stp_le (L + 1) (by omega)
  rw [e]
  generalize stp (L + 1) = Z at *
  unfold wrap64
  omega
set_option maxRecDepth 100000 in
set_option maxHeartbeats 2000000 in
theorem find_any (b n : Nat) (f : Nat → Int) (M : Int) (w : World) (hn : n < 4194304) (hM0 : 0 ≤ M) (hM : M ≤ 4194304) (hf : ∀ j, 1 ≤ j → j < n → -4194304 ≤ f j ∧ f j ≤ 4194304) (hC : Cel .i64 w b n f) : Calls Try.prog 47 #[.slice (some ⟨b, 0, none⟩) n n, .int .i64 M] w fun e w' => e = .returned (.int .i64 ((fdF n f (Lib.bitLen n + 1) 0 M : Nat) : Int)) ∧ w' = w := by
  have hn2 : (n : Int) < 4194304 := by omega
  have hL : Lib.bitLen n ≤ 22 := Lib.bitLen_le n 22 (by omega) (by omega)
  replace hf : Hid (∀ j, 1 ≤ j → j < n → -4194304 ≤ f j ∧ f j ≤ 4194304) := hf
  replace hC : Hid (Cel .i64 w b n f) := hC
  have k1 := fun w => len_any n w (by omega)
  have hs := shl_one (Lib.bitLen n) (by omega)
  generalize Lib.bitLen n = L at *
  have hs0 := stp_pos L
  have hs1 := stp_le (L + 1) (by omega)
  obtain ⟨F, hF⟩ : ∃ F, Hid (fdF n f (L + 1) 0 M = F) := ⟨_, rfl⟩
  rw [hF.out]
  obtain ⟨S, hS⟩ : ∃ S, Hid (stp (L + 1) = S) := ⟨_, rfl⟩
  rw [hS.out] at hs hs0 hs1
  go_enter Try.func47, Try.ntmps47
  go_wp2_with (go_at_call 55; refine (k1 _).mono ?_; rintro e w' ⟨rfl, hw⟩; rw [hw]; clear hw)
  clear k1
  go_loopw [1, 5, 6] (fun z y x wr => ∃ (m : Int) (i s : Nat), z = .int .i64 m ∧ y = .int .i64 (i : Int) ∧ x = .int .i64 (s : Int) ∧ Hid (∃ t : Nat, s = stp t ∧ t ≤ 23 ∧ fdF n f t i m = F ∧ -1073741824 + 4194304 * (t : Int) ≤ m ∧ m + 4194304 * (t : Int) ≤ 1073741824 ∧ (i < n ∨ i = 0)) ∧ Hid (wr = w)) (fun _ _ x _ => (RowKit.intOf x).toNat)
  case atStart => exact ⟨M, 0, S, rfl, rfl, by rw [hs], ⟨L + 1, hS.out.symm, by omega, hF.out, by omega, by omega, Or.inr rfl⟩, rfl⟩
  case round =>
    clear hF hS hs0 hs1 hs hn hL hM hM0
    obtain ⟨m, i, s, rfl, rfl, rfl, ⟨t, g1, g2, g3, g4, g5, g6⟩, g7⟩ := hrel
    rw [Hid] at g7
    subst g7
    have g6' : (i : Int) < 4194304 := by omega
    have m1 : -1073741824 ≤ m := by omega
    have m2 : m ≤ 1073741824 := by omega
    cases t with
    | zero =>
      obtain rfl : s = 0 := g1
      have g8 : i = F := g3
      subst g8
      clear g3 g4 g5 hf hC
      go_wp2
      go_ret
      exact ⟨rfl, rfl⟩
    | succ t =>
      have p0 := stp_pos t
      have p1 := stp_le (t + 1) g2
      have ph := stp_half t
      rw [fdF, show 2 ^ t = stp (t + 1) from rfl] at g3
      rw [← g1] at p0 p1 ph g3
      have s0 : (0 : Int) < (s : Int) := by omega
      have s1 : (s : Int) ≤ 4194304 := by omega
      have s2 : decide ((0 : Int) < (s : Int)) = true := decide_eq_true s0
      obtain ⟨j, hj⟩ : ∃ j, i + s = j := ⟨_, rfl⟩
      have j2 : (i : Int) + (s : Int) = (j : Int) := by omega
      have j3 : (j : Int) ≤ 8388608 := by omega
      have j4 : (0 : Int) ≤ (j : Int) := by omega
      rw [hj] at g3
      by_cases c : j < n
      · have c1 : (j : Int) < (n : Int) := by omega
        have c2 : decide ((j : Int) < (n : Int)) = true := decide_eq_true c1
        obtain ⟨x1, -⟩ := hC.out j c
        obtain ⟨v1, v2⟩ := hf.out j (by omega) c
        by_cases d : f j ≤ m
        · rw [if_pos ⟨c, d⟩] at g3
          have HE : Hid (∃ t : Nat, s / 2 = stp t ∧ t ≤ 23 ∧ fdF n f t j (m - f j) = F ∧ -1073741824 + 4194304 * (t : Int) ≤ m - f j ∧ m - f j + 4194304 * (t : Int) ≤ 1073741824 ∧ (j < n ∨ j = 0)) := ⟨t, ph, by omega, g3, by omega, by omega, Or.inl c⟩
          clear g1 g3 g4 g5 hf hC ph p0 p1 g6 hj g6' hn2
          generalize f j = V at *
          go_wp2
          refine ⟨⟨_, j, s / 2, rfl, rfl, by simp, HE, by first | exact trivial | exact rfl⟩, ?_⟩
          simp [RowKit.intOf]; omega
        · rw [if_neg (fun h => d h.2)] at g3
          have HE : Hid (∃ t : Nat, s / 2 = stp t ∧ t ≤ 23 ∧ fdF n f t i m = F ∧ -1073741824 + 4194304 * (t : Int) ≤ m ∧ m + 4194304 * (t : Int) ≤ 1073741824 ∧ (i < n ∨ i = 0)) := ⟨t, ph, by omega, g3, by omega, by omega, g6⟩
          clear g1 g3 g4 g5 hf hC ph p0 p1 g6 hj g6' hn2
          generalize f j = V at *
          go_wp2
          refine ⟨⟨_, i, s / 2, rfl, rfl, by simp, HE, by first | exact trivial | exact rfl⟩, ?_⟩
          simp [RowKit.intOf]; omega
      · have c1 : ¬ (j : Int) < (n : Int) := by omega
        have c2 : decide ((j : Int) < (n : Int)) = false := decide_eq_false c1
        rw [if_neg (fun h => c h.1)] at g3
        have HE : Hid (∃ t : Nat, s / 2 = stp t ∧ t ≤ 23 ∧ fdF n f t i m = F ∧ -1073741824 + 4194304 * (t : Int) ≤ m ∧ m + 4194304 * (t : Int) ≤ 1073741824 ∧ (i < n ∨ i = 0)) := ⟨t, ph, by omega, g3, by omega, by omega, g6⟩
        clear g1 g3 g4 g5 hf hC ph p0 p1 g6 hj g6' hn2
        go_wp2
        refine ⟨⟨_, i, s / 2, rfl, rfl, by simp, HE, by first | exact trivial | exact rfl⟩, ?_⟩
        simp [RowKit.intOf]; omega
end Go.Proofs.Ytahmeejcgddlhab
