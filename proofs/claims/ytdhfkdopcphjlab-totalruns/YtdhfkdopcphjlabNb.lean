/-
  The contract of nearest, for all numbers. Conditions: the layout is one that is reckoned with; the exponent is not too great.
-/
import Derived.Test.YtdhfkdopcphjlabNr
namespace Go.Proofs.Ytdhfkdopcphjlab
open Go.RowKit
/-- The bits of m times 2^e, rounded. -/
def nearB (p k : Nat) (bi : Int) (m : Nat) (e : Int) : Nat :=
  if m = 0 then 0 else
  if bi < e + (Lib.bitLen m : Nat) - 1 then (2 ^ k - 1) * 2 ^ p else
  (max (e + (Lib.bitLen m : Nat) - 1 - (p : Int)) (1 - bi - p) - (1 - bi - p)).toNat * 2 ^ p + inU m (max (e + (Lib.bitLen m : Nat) - 1 - (p : Int)) (1 - bi - p) - e)
theorem len_of {m : Nat} (h0 : ¬ m = 0) (hm : m < 18446744073709551616) : 1 ≤ Lib.bitLen m ∧ Lib.bitLen m ≤ 64 ∧ m < 2 ^ Lib.bitLen m := by
  rw [len_log m h0 hm]
  refine ⟨by omega, ?_, Nat.lt_log2_self⟩
  have : m.log2 < 64 := (Nat.log2_lt h0).2 hm
  omega
theorem rnd_le (m s : Nat) : rnd m s ≤ m / 2 ^ s + 1 := by unfold rnd; split <;> omega
theorem inU_le {p m ln : Nat} {s : Int} (hm : m < 2 ^ ln) (h : (ln : Int) ≤ p + 1 + s) : inU m s ≤ 2 ^ (p + 1) := by
  unfold inU
  by_cases c : s ≤ 0
  · rw [if_pos c]
    obtain ⟨t, ht⟩ : ∃ t : Nat, s = -(t : Int) := ⟨(-s).toNat, by omega⟩
    subst ht
    have e : (-(-(t : Int))).toNat = t := by omega
    rw [e]
    have h1 : m * 2 ^ t < 2 ^ ln * 2 ^ t := Nat.mul_lt_mul_of_pos_right hm (Nat.two_pow_pos _)
    rw [← Nat.pow_add] at h1
    have h2 : 2 ^ (ln + t) ≤ 2 ^ (p + 1) := Nat.pow_le_pow_right (by omega) (by omega)
    omega
  · rw [if_neg c]
    obtain ⟨t, ht⟩ : ∃ t : Nat, s = (t : Int) := ⟨s.toNat, by omega⟩
    subst ht
    rw [Int.toNat_natCast]
    have h1 := rnd_le m t
    have h2 : m / 2 ^ t < 2 ^ (p + 1) := Nat.div_lt_of_lt_mul (by
      rw [← Nat.pow_add]
      exact Nat.lt_of_lt_of_le hm (Nat.pow_le_pow_right (by omega) (by omega)))
    omega
theorem two_bi {p k : Nat} {bi : Int} (L : Lay p k bi) : 2 * bi = ((2 ^ k - 2 : Nat) : Int) := by
  have h := L.bi
  have hk := L.k2
  have e : 2 ^ k = 2 * 2 ^ (k - 1) := pow_half (by omega)
  have := Nat.two_pow_pos (k - 1)
  rw [pow_int] at h
  omega
theorem near_facts {p k : Nat} {bi : Int} (L : Lay p k bi) {m : Nat} {e : Int} (h0 : ¬ m = 0) (hm : m < 18446744073709551616) (hpw : ¬ bi < e + (Lib.bitLen m : Nat) - 1) :
    inU m (max (e + (Lib.bitLen m : Nat) - 1 - (p : Int)) (1 - bi - p) - e) ≤ 2 ^ (p + 1) ∧ (max (e + (Lib.bitLen m : Nat) - 1 - (p : Int)) (1 - bi - p) - (1 - bi - p)).toNat + 2 ≤ 2 ^ k - 1 := by
  obtain ⟨l1, l2, l3⟩ := len_of h0 hm
  have hb := two_bi L
  have hbi := L.bi0
  have hk := L.kk
  generalize Lib.bitLen m = ln at *
  refine ⟨inU_le l3 (by omega), ?_⟩
  omega
theorem nearB_le {p k : Nat} {bi : Int} (L : Lay p k bi) {m : Nat} (e : Int) (hm : m < 18446744073709551616) : nearB p k bi m e ≤ (2 ^ k - 1) * 2 ^ p := by
  unfold nearB
  split
  · exact Nat.zero_le _
  · rename_i h0
    split
    · exact Nat.le_refl _
    · rename_i hpw
      obtain ⟨a, b⟩ := near_facts L h0 hm hpw
      generalize (max (e + (Lib.bitLen m : Nat) - 1 - (p : Int)) (1 - bi - p) - (1 - bi - p)).toNat = T at *
      generalize inU m _ = Nn at *
      have h3 : (T + 2) * 2 ^ p ≤ (2 ^ k - 1) * 2 ^ p := Nat.mul_le_mul_right _ b
      rw [Nat.add_mul] at h3
      rw [Nat.pow_succ] at a
      omega
theorem nearest_any {p k : Nat} {bi : Int} (L : Lay p k bi) (m : Nat) (e : Int) (w : World) (hm : m < 18446744073709551616) (he1 : -10000 ≤ e) (he2 : e ≤ 10000) : Calls Try.prog 130 #[lay p k bi, .int .u64 (m : Int), .int .i64 e] w fun r w' => r = .returned (.int .u64 (nearB p k bi m e : Nat)) ∧ Below w.heap.size w w' := by
  have hbi := L.bi0
  have hp1 := L.p1
  have hp52 := L.p52
  have hle := nearB_le L e hm
  have hinf := L.inf
  have ht := L.top
  unfold nearB at hle ⊢
  by_cases h0 : m = 0
  · subst h0
    rw [if_pos rfl]
    exact near_zero w _ e
  · rw [if_neg h0] at hle ⊢
    obtain ⟨l1, l2, l3⟩ := len_of h0 hm
    have k65 := fun w => len_any m w hm
    by_cases hpw : bi < e + (Lib.bitLen m : Nat) - 1
    · rw [if_pos hpw] at hle ⊢
      exact near_inf w hp1 hp52 hbi.1 hbi.2 _ m _ e he1 he2 l2 h0 k65 _ hpw fun w => infinite_any L w
    · rw [if_neg hpw] at hle ⊢
      obtain ⟨a, b⟩ := near_facts L h0 hm hpw
      have hU0 : (1 - bi - (p : Int)) ≤ max (e + (Lib.bitLen m : Nat) - 1 - (p : Int)) (1 - bi - p) := by omega
      have hU1 : max (e + (Lib.bitLen m : Nat) - 1 - (p : Int)) (1 - bi - p) ≤ 20000 := by omega
      have hs : ((Lib.bitLen m : Nat) : Int) ≤ p + 1 + (max (e + (Lib.bitLen m : Nat) - 1 - (p : Int)) (1 - bi - p) - e) := by omega
      generalize hU : max (e + (Lib.bitLen m : Nat) - 1 - (p : Int)) (1 - bi - p) = U at *
      obtain ⟨T, hT⟩ : ∃ T : Nat, U - (1 - bi - p) = T := ⟨_, (Int.toNat_of_nonneg (by omega)).symm⟩
      rw [hT, Int.toNat_natCast] at hle b ⊢
      have k66 := fun w => inU_any m (U - e) w hm fun hn => by
        refine ⟨by omega, ?_⟩
        have h9 := inU_le (p := p) (s := U - e) l3 hs
        unfold inU at h9
        rw [if_pos hn] at h9
        have : 2 ^ (p + 1) ≤ 2 ^ 53 := Nat.pow_le_pow_right (by omega) (by omega)
        omega
      have hle2 : T * 2 ^ p ≤ T * 2 ^ p + inU m (U - e) := Nat.le_add_right _ _
      have hb2 : (2 ^ k - 1) * 2 ^ p ≤ 9223372036854775808 := by
        have : (2 ^ k - 1) * 2 ^ p ≤ 2 ^ (p + k) := by rw [← hinf]; exact Nat.le_add_right _ _
        omega
      refine near_num w hp1 hp52 hbi.1 hbi.2 _ m _ e he1 he2 l2 h0 k65 (1 - bi - p) U (inU m (U - e)) (T * 2 ^ p) _ hpw (i64_in _ (by omega) (by omega)) hU (i64_in _ (by omega) (by omega)) (by omega) (by omega) ?_ ?_ (fun w => lowest_any L w) k66
      · rw [hT, u64_small T (by have := L.kk; omega), pow_int, ← Int.natCast_mul, u64_small _ (by omega)]
      · rw [← Int.natCast_add, u64_small _ (by omega)]
end Go.Proofs.Ytdhfkdopcphjlab
