/-
  The contracts of a layout's numbers: the one ahead of the fraction, the quiet bit, the lowest power, infinite, the document's sign bit; of double and single and the document's sizes. Condition: the layout is one that is reckoned with.
-/
import Derived.Test.YtdhfkdopcphjlabProg
import Derived.Test.YtdhfkdopcphjlabSp
namespace Go.Proofs.Ytdhfkdopcphjlab
open Go.RowKit
theorem u64_small (x : Nat) (h : x ≤ 18446744073709551615) : IntKind.u64.wrap (x : Int) = x := by
  simp [IntKind.wrap, IntKind.bits, IntKind.signed]
  omega
theorem pow_int (n : Nat) : (2 : Int) ^ n = ((2 ^ n : Nat) : Int) := by push_cast; rfl
theorem u64_pow (n : Nat) (h : n ≤ 63) : IntKind.u64.wrap ((2 : Int) ^ n) = ((2 ^ n : Nat) : Int) := by
  rw [pow_int, u64_small _ (Nat.le_trans (pow_le64 h) (by decide))]
/-- A layout, as the program has it. -/
abbrev lay (p k : Nat) (bi : Int) : Value := .agg #[.int .i64 p, .int .u64 ((2 ^ k - 1 : Nat) : Int), .int .i64 bi]
/-- A size, as the document has it. -/
abbrev siz (p k : Nat) (bi : Int) : Value := .agg #[.int .i64 p, .int .i64 ((2 ^ k - 1 : Nat) : Int), .int .i64 bi]
theorem Lay.bi0 {p k : Nat} {bi : Int} (L : Lay p k bi) : 0 ≤ bi ∧ bi ≤ 1023 := by
  have h := L.bi
  have h1 : 1 ≤ 2 ^ (k - 1) := Nat.one_le_two_pow
  have h2 : 2 ^ (k - 1) ≤ 2 ^ 10 := Nat.pow_le_pow_right (by omega) (by have := L.k11; omega)
  rw [pow_int] at h
  omega
theorem Lay.kk {p k : Nat} {bi : Int} (L : Lay p k bi) : 4 ≤ 2 ^ k ∧ 2 ^ k ≤ 2048 :=
  ⟨Nat.pow_le_pow_right (n := 2) (i := 2) (by omega) L.k2, Nat.pow_le_pow_right (n := 2) (j := 11) (by omega) L.k11⟩
theorem Lay.inf {p k : Nat} {bi : Int} (L : Lay p k bi) : (2 ^ k - 1) * 2 ^ p + 2 ^ p = 2 ^ (p + k) := by
  have := L.kk.1
  obtain ⟨n, hn⟩ : ∃ n, 2 ^ k = n + 1 := ⟨2 ^ k - 1, by omega⟩
  rw [Nat.pow_add, hn, Nat.add_sub_cancel, Nat.mul_comm (2 ^ p), Nat.succ_mul]
theorem Lay.top {p k : Nat} {bi : Int} (L : Lay p k bi) : 2 ^ (p + k) ≤ 9223372036854775808 := pow_le64 (by have := L.p52; have := L.k11; omega)
theorem Lay.pp {p k : Nat} {bi : Int} (L : Lay p k bi) : 2 ≤ 2 ^ p ∧ 2 ^ p ≤ 4503599627370496 :=
  ⟨Nat.pow_le_pow_right (n := 2) (i := 1) (by omega) L.p1, Nat.pow_le_pow_right (n := 2) (j := 52) (by omega) L.p52⟩
theorem one_any {p k : Nat} {bi : Int} (L : Lay p k bi) (w : World) : Calls Try.prog 124 #[lay p k bi] w fun e w' => e = .returned (.int .u64 ((2 ^ p : Nat) : Int)) ∧ Below w.heap.size w w' := by
  have h1 := L.p1
  have h2 := L.p52
  have h3 := u64_pow p (by omega)
  obtain ⟨K, hK⟩ : ∃ K : Int, ((2 ^ k - 1 : Nat) : Int) = K := ⟨_, rfl⟩
  obtain ⟨P, hP⟩ : ∃ P : Int, ((2 ^ p : Nat) : Int) = P := ⟨_, rfl⟩
  unfold lay
  rw [hK]
  rw [hP] at h3 ⊢
  clear L hK hP
  go_enter Try.func124, Try.ntmps124
  go_wp2
  go_ret
  exact ⟨rfl, (Below.refl _ _).alloc (Nat.le_refl _) _⟩
theorem quiet_any {p k : Nat} {bi : Int} (L : Lay p k bi) (w : World) : Calls Try.prog 125 #[lay p k bi] w fun e w' => e = .returned (.int .u64 ((2 ^ (p - 1) : Nat) : Int)) ∧ Below w.heap.size w w' := by
  have h1 := L.p1
  have h2 := L.p52
  have h3 := u64_pow (p - 1) (by omega)
  obtain ⟨K, hK⟩ : ∃ K : Int, ((2 ^ k - 1 : Nat) : Int) = K := ⟨_, rfl⟩
  obtain ⟨P, hP⟩ : ∃ P : Int, ((2 ^ (p - 1) : Nat) : Int) = P := ⟨_, rfl⟩
  unfold lay
  rw [hK]
  rw [hP] at h3 ⊢
  clear L hK hP
  go_enter Try.func125, Try.ntmps125
  go_wp2
  go_ret
  exact ⟨rfl, (Below.refl _ _).alloc (Nat.le_refl _) _⟩
theorem lowest_any {p k : Nat} {bi : Int} (L : Lay p k bi) (w : World) : Calls Try.prog 126 #[lay p k bi] w fun e w' => e = .returned (.int .i64 (1 - bi - p)) ∧ Below w.heap.size w w' := by
  have h1 := L.p1
  have h2 := L.p52
  obtain ⟨h3, h4⟩ := L.bi0
  obtain ⟨K, hK⟩ : ∃ K : Int, ((2 ^ k - 1 : Nat) : Int) = K := ⟨_, rfl⟩
  unfold lay
  rw [hK]
  clear L hK
  go_enter Try.func126, Try.ntmps126
  go_wp2
  go_ret
  exact ⟨rfl, (Below.refl _ _).alloc (Nat.le_refl _) _⟩
theorem infinite_any {p k : Nat} {bi : Int} (L : Lay p k bi) (w : World) : Calls Try.prog 128 #[lay p k bi] w fun e w' => e = .returned (.int .u64 (((2 ^ k - 1) * 2 ^ p : Nat) : Int)) ∧ Below w.heap.size w w' := by
  have h1 := L.p1
  have h2 := L.p52
  have hi := L.inf
  have ht := L.top
  have h0 : (2 ^ k - 1) * 2 ^ p ≤ 2 ^ (p + k) := by rw [← hi]; exact Nat.le_add_right _ _
  have h3 := u64_small ((2 ^ k - 1) * 2 ^ p) (Nat.le_trans h0 (Nat.le_trans ht (by decide)))
  have h4 : (((2 ^ k - 1) * 2 ^ p : Nat) : Int) = ((2 ^ k - 1 : Nat) : Int) * 2 ^ p := by rw [Int.natCast_mul, pow_int]
  rw [h4] at h3 ⊢
  unfold lay
  obtain ⟨K, hK⟩ : ∃ K : Int, ((2 ^ k - 1 : Nat) : Int) = K := ⟨_, rfl⟩
  rw [hK] at h3 ⊢
  clear L hK hi ht h4 h0
  go_enter Try.func128, Try.ntmps128
  go_wp2
  go_ret
  exact ⟨rfl, (Below.refl _ _).alloc (Nat.le_refl _) _⟩
theorem double_any (w : World) : Calls Try.prog 110 #[] w fun e w' => e = .returned (lay 52 11 1023) ∧ Below w.heap.size w w' := by
  go_enter Try.func110, Try.ntmps110
  go_wp2
  refine bodyPost_ret (v := lay 52 11 1023) (by simp [results, Try.results110, go_sem]) rfl ⟨rfl, ?_⟩
  exact (Below.refl _ _).alloc (Nat.le_refl _) _
end Go.Proofs.Ytdhfkdopcphjlab
