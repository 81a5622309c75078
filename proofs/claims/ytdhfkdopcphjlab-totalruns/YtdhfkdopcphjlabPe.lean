/-
  The contract of a layout's parts, for all bits: they are the parts that the words say. Condition: the layout is one that is reckoned with.
-/
import Derived.Test.YtdhfkdopcphjlabPb
namespace Go.Proofs.Ytdhfkdopcphjlab
open Go.RowKit
/-- Parts, as the program has them. -/
def Pt.val (x : Pt) : Value := .agg #[.int .i64 x.kind, .bool x.neg, .int .u64 (x.mant : Int), .int .i64 x.exp, .bool x.quiet, .int .u64 (x.load : Int)]
section
variable {p k : Nat} {bi : Int} (L : Lay p k bi) (b : Nat) (hb : b < 18446744073709551616)
include L hb
theorem fE : bits .and .u64 ((b : Int) / 2 ^ p) ((2 ^ k - 1 : Nat) : Int) = ((b / 2 ^ p % 2 ^ k : Nat) : Int) := by
  have hk := L.kk
  have h1 : b / 2 ^ p ≤ b := Nat.div_le_self _ _
  rw [pow_int, ← Int.natCast_ediv, u64_and_nat _ _ (by omega) (by omega), and_low]
theorem fF : bits .and .u64 (b : Int) (((2 ^ p : Nat) : Int) - 1) = ((b % 2 ^ p : Nat) : Int) := by
  have hp := L.pp
  have h1 : ((2 ^ p : Nat) : Int) - 1 = ((2 ^ p - 1 : Nat) : Int) := by omega
  rw [h1, u64_and_nat _ _ hb (by omega), and_low]
theorem fN : bits .and .u64 (b : Int) ((2 ^ (p + k) : Nat) : Int) = ((b &&& 2 ^ (p + k) : Nat) : Int) := by
  have ht := L.top
  rw [u64_and_nat _ _ hb (by omega)]
end
theorem fng (n b : Nat) : (((b &&& 2 ^ n : Nat) : Int) != 0) = sg n b := by
  rw [nat_bit]
  unfold sg
  have hp := Nat.two_pow_pos n
  rcases two_cases (Nat.mod_lt (b / 2 ^ n) (by omega : 2 > 0)) with h | h <;> rw [h]
  · rw [Nat.zero_mul]; rfl
  · have h2 : ((1 * 2 ^ n : Nat) : Int) ≠ 0 := by rw [Nat.one_mul]; exact Int.natCast_ne_zero.2 (by omega)
    exact bne_iff_ne.2 h2
section
variable {p k : Nat} {bi : Int} (L : Lay p k bi) (F : Nat) (hF : F < 2 ^ p)
include L hF
theorem fFQ : bits .and .u64 (F : Int) ((2 ^ (p - 1) : Nat) : Int) = ((F &&& 2 ^ (p - 1) : Nat) : Int) := by
  have hp := L.pp
  have hh := pow_half L.p1
  rw [u64_and_nat _ _ (by omega) (by omega)]
theorem fqu : (((F &&& 2 ^ (p - 1) : Nat) : Int) != 0) = decide (F / 2 ^ (p - 1) = 1) := by
  have hh := pow_half L.p1
  rw [fng, sg, Nat.mod_eq_of_lt (Nat.div_lt_of_lt_mul (by omega))]
theorem fLD : bits .andNot .u64 (F : Int) ((2 ^ (p - 1) : Nat) : Int) = ((F % 2 ^ (p - 1) : Nat) : Int) := by
  have hp := L.pp
  have hh := pow_half L.p1
  have h52 := L.p52
  have h1 := L.p1
  rw [u64_andNot_nat _ _ (by omega) (by omega), andNot_bit F (p - 1) (by omega) (by rw [Nat.sub_add_cancel h1]; exact hF)]
theorem fM : bits .or .u64 ((2 ^ p : Nat) : Int) (F : Int) = ((2 ^ p + F : Nat) : Int) := by
  have hp := L.pp
  rw [u64_or_nat _ _ (by omega) (by omega), nat_join p (2 ^ p) F (Nat.mod_self _) hF]
theorem fqu' : ((F : Int) / 2 ^ (p - 1) == 1) = decide (F / 2 ^ (p - 1) = 1) := by
  have _ := L.p1
  have _ := hF
  rw [pow_int, ← Int.natCast_ediv]
  generalize F / 2 ^ (p - 1) = x
  rw [Bool.eq_iff_iff]
  simp
  omega
theorem fLD' : bits .and .u64 (F : Int) (((2 ^ (p - 1) : Nat) : Int) - 1) = ((F % 2 ^ (p - 1) : Nat) : Int) := by
  have hp := L.pp
  have hh := pow_half L.p1
  have h1 : ((2 ^ (p - 1) : Nat) : Int) - 1 = ((2 ^ (p - 1) - 1 : Nat) : Int) := by omega
  rw [h1, u64_and_nat _ _ (by omega) (by omega), and_low]
end
theorem i64_in (n : Int) (h1 : -9223372036854775808 ≤ n) (h2 : n ≤ 9223372036854775807) : IntKind.i64.wrap n = n := by
  simp [IntKind.wrap, IntKind.bits, IntKind.signed]
  omega
theorem parts_any {p k : Nat} {bi : Int} (L : Lay p k bi) (b : Nat) (w : World) (hb : b < 18446744073709551616) : Calls Try.prog 111 #[lay p k bi, .int .u64 (b : Int)] w fun e w' => e = .returned (pt p k bi b).val ∧ Below w.heap.size w w' := by
  have hk := L.kk
  have hp := L.pp
  have hbi := L.bi0
  have hp52 := L.p52
  have hF : b % 2 ^ p < 2 ^ p := Nat.mod_lt _ (by omega)
  have hE : b / 2 ^ p % 2 ^ k < 2 ^ k := Nat.mod_lt _ (by omega)
  have k55 := fun w => one_any L w
  have k56 := fun w => sign_any L w
  have k57 := fun w => quiet_any L w
  have k58 := fun w => lowest_any L w
  have a1 := fE L b hb
  have a2 := fF L b hb
  have a3 := fN L b hb
  have a4 := fng (p + k) b
  unfold pt
  split
  · rename_i hEK
    split
    · rename_i hF0
      exact parts_inf b w hb L.p1 L.p52 hbi.1 hbi.2 _ _ _ _ _ _ _ (by omega) (by omega) hp.1 hp.2 a1 a2 a3 a4 k55 k56 hEK hF0
    · rename_i hF0
      exact parts_none b w hb L.p1 L.p52 hbi.1 hbi.2 _ _ _ _ _ _ _ (by omega) (by omega) hp.1 hp.2 a1 a2 a3 a4 k55 k56 _ _ _ _ (fFQ L _ hF) (fqu L _ hF) (fLD L _ hF) k57 hEK hF0
  · rename_i hEK
    split
    · rename_i hE0
      split
      · rename_i hF0
        exact parts_nought b w hb L.p1 L.p52 hbi.1 hbi.2 _ _ _ _ _ _ _ (by omega) (by omega) hp.1 hp.2 a1 a2 a3 a4 k55 k56 hEK hE0 hF0
      · rename_i hF0
        exact parts_sub b w hb L.p1 L.p52 hbi.1 hbi.2 _ _ _ _ _ _ _ (by omega) (by omega) hp.1 hp.2 a1 a2 a3 a4 k55 k56 _ k58 hEK hE0 hF0
    · rename_i hE0
      exact parts_normal b w hb L.p1 L.p52 hbi.1 hbi.2 _ _ _ _ _ _ _ (by omega) (by omega) hp.1 hp.2 a1 a2 a3 a4 k55 k56 _ k58 (2 ^ p + b % 2 ^ p) (((b / 2 ^ p % 2 ^ k : Nat) : Int) - bi - p) (fM L _ hF) (i64_in _ (by omega) (by omega)) (i64_in _ (by omega) (by omega)) ((i64_in _ (by omega) (by omega)).trans (by omega)) hEK hE0
end Go.Proofs.Ytdhfkdopcphjlab
