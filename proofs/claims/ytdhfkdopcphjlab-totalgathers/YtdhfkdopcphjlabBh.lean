/-
  The document's bit, scaled, parts, infinite, negative and None. Conditions: the digits are of 16 bits, the bit's place is one of theirs; the floats are of 64 bits.
-/
import Derived.Test.YtdhfkdopcphjlabBg
namespace Go.Proofs.Ytdhfkdopcphjlab
open Go.RowKit
theorem i64_and1 (n : Int) : bits .and .i64 n 1 = n % 2 := by
  have h1 : (BitVec.ofInt 64 1).toNat = 2 ^ 1 - 1 := by decide
  have key : (BitVec.ofInt 64 n &&& BitVec.ofInt 64 1).toNat = (n % ((2 ^ 64 : Nat) : Int)).toNat % 2 ^ 1 := by
    rw [BitVec.toNat_and, BitVec.toNat_ofInt, h1, Nat.and_two_pow_sub_one_eq_mod]
  show IntKind.i64.wrap ((BitVec.ofInt 64 n &&& BitVec.ofInt 64 1).toNat : Nat) = n % 2
  rw [key, IntKind.wrap_i64]
  omega
theorem i64_and16 (n : Int) : bits .and .i64 n 65535 = n % 65536 := by
  have h1 : (BitVec.ofInt 64 65535).toNat = 2 ^ 16 - 1 := by decide
  have key : (BitVec.ofInt 64 n &&& BitVec.ofInt 64 65535).toNat = (n % ((2 ^ 64 : Nat) : Int)).toNat % 2 ^ 16 := by
    rw [BitVec.toNat_and, BitVec.toNat_ofInt, h1, Nat.and_two_pow_sub_one_eq_mod]
  show IntKind.i64.wrap ((BitVec.ofInt 64 n &&& BitVec.ofInt 64 65535).toNat : Nat) = n % 65536
  rw [key, IntKind.wrap_i64]
  omega
attribute [local go_sem] rowB_size
set_option maxRecDepth 100000 in
set_option maxHeartbeats 400000 in
theorem bit_any (D : Nat → Nat) (k : Nat) (w : World) (hk : k < 4480) :
    Calls Try.prog 117 #[.agg (rowB fun i => ((D i : Nat) : Int)), .int .i64 (k : Int)] w fun e w' => e = .returned (.int .i64 ((D (k / 16) / 2 ^ (k % 16) % 2 : Nat) : Int)) ∧ Below w.heap.size w w' := by
  have h1 : (k : Int) < 4480 := by omega
  obtain ⟨q, hq⟩ : ∃ q, k / 16 = q := ⟨_, rfl⟩
  obtain ⟨r, hr⟩ : ∃ r, k % 16 = r := ⟨_, rfl⟩
  rw [hq, hr]
  have hq1 : (k : Int) / 16 = (q : Int) := by omega
  have hr1 : (k : Int) % 16 = (r : Int) := by omega
  have hq2 : (q : Int) < 280 := by omega
  have hr2 : (r : Int) < 16 := by omega
  have hk0 : decide ((k : Int) < 0) = false := by simp
  have hk1 : decide ((4480 : Int) ≤ k) = false := by simp; omega
  obtain ⟨d, hd⟩ : ∃ d, D q = d := ⟨_, rfl⟩
  have hg : (rowB fun i => ((D i : Nat) : Int))[q]? = some (.int .i64 (d : Int)) := by rw [← hd]; exact rowB_get (fun i => ((D i : Nat) : Int)) q (by omega)
  have hb : bits .and .i64 ((d : Int) / 2 ^ r) 1 = ((d / 2 ^ r % 2 : Nat) : Int) := by rw [i64_and1]; push_cast; rfl
  rw [hd]
  clear hq hr hd
  generalize (rowB fun i => ((D i : Nat) : Int)) = B at *
  go_enter Try.func117, Try.ntmps117
  go_wp2_with fail
  go_ret
  exact ⟨rfl, (Below.refl _ _).alloc (Nat.le_refl _) _⟩
/-- m times 2^e as a float's bits. -/
def scB (m : Nat) (e : Int) : Nat :=
  if 9007199254740992 ≤ m then (if 2047 ≤ e + 1076 then 9218868437227405312 else (e + 1076).toNat * 4503599627370496 + (m / 2 - 4503599627370496))
  else if m < 4503599627370496 then m else (if 2047 ≤ e + 1075 then 9218868437227405312 else (e + 1075).toNat * 4503599627370496 + (m - 4503599627370496))
theorem or_52 (x y : Nat) (hx : x < 4096) (hy : y < 4503599627370496) : bits .or .u64 ((x * 4503599627370496 : Nat) : Int) (y : Int) = ((x * 4503599627370496 + y : Nat) : Int) := by
  rw [u64_or_nat _ _ (by omega) (by omega)]
  congr 1
  exact nat_join 52 _ _ (by rw [show (2 : Nat) ^ 52 = 4503599627370496 from rfl]; omega) (by rw [show (2 : Nat) ^ 52 = 4503599627370496 from rfl]; exact hy)
set_option maxRecDepth 100000 in
set_option maxHeartbeats 400000 in
theorem scaled_any (m : Nat) (e : Int) (w : World) (hm : m ≤ 9007199254740992) (he1 : -1074 ≤ e) (he2 : e ≤ 100000) : Calls Try.prog 118 #[.int .i64 (m : Int), .int .i64 e] w fun r w' => r = .returned (.float .f64 (scB m e)) ∧ w' = w := by
  have x10 := ext10
  by_cases c1 : 9007199254740992 ≤ m
  · have em : m = 9007199254740992 := by omega
    subst em
    by_cases c2 : 2047 ≤ e + 1076
    · have hs : scB 9007199254740992 e = 9218868437227405312 := by unfold scB; rw [if_pos (Nat.le_refl _), if_pos c2]
      have c3 : (2047 : Int) ≤ e + 1 + 1075 := by omega
      rw [hs]
      go_enter Try.func118, Try.ntmps118
      go_wp2
      go_ret
      exact ⟨rfl, rfl⟩
    · obtain ⟨x, hx⟩ : ∃ x : Nat, e + 1 + 1075 = (x : Int) := ⟨(e + 1076).toNat, by omega⟩
      have hs : scB 9007199254740992 e = x * 4503599627370496 := by unfold scB; rw [if_pos (Nat.le_refl _), if_neg c2, show (e + 1076).toNat = x by omega]; omega
      have c3 : (x : Int) < 2047 := by omega
      have ho : bits .or .u64 ((x * 4503599627370496 : Nat) : Int) 0 = ((x * 4503599627370496 : Nat) : Int) := by
        have := or_52 x 0 (by omega) (by omega)
        rw [Nat.add_zero] at this
        exact this
      rw [Int.natCast_mul, show ((4503599627370496 : Nat) : Int) = 4503599627370496 from rfl] at ho
      rw [hs]
      have hA : (((x * 4503599627370496 : Nat) : Int)).toNat = x * 4503599627370496 := Int.toNat_natCast _
      rw [Int.natCast_mul, show ((4503599627370496 : Nat) : Int) = 4503599627370496 from rfl] at hA
      generalize x * 4503599627370496 = A at *
      clear hm c1 c2
      go_enter Try.func118, Try.ntmps118
      go_wp2
      go_ret
      exact ⟨rfl, rfl⟩
  · by_cases c2 : m < 4503599627370496
    · have hs : scB m e = m := by unfold scB; rw [if_neg c1, if_pos c2]
      have c3 : ((m : Int)) < 4503599627370496 := by omega
      rw [hs]
      have n1 : decide ((9007199254740992 : Int) ≤ m) = false := by simp; omega
      have n2 : decide ((m : Int) < 4503599627370496) = true := by simp; omega
      clear hm c1 c2 hs
      go_enter Try.func118, Try.ntmps118
      go_wp2
      go_ret
      exact ⟨rfl, rfl⟩
    · obtain ⟨y, hy⟩ : ∃ y : Nat, m = 4503599627370496 + y := ⟨m - 4503599627370496, by omega⟩
      subst hy
      by_cases c3 : 2047 ≤ e + 1075
      · have hs : scB (4503599627370496 + y) e = 9218868437227405312 := by unfold scB; rw [if_neg c1, if_neg c2, if_pos c3]
        have n1 : decide ((9007199254740992 : Int) ≤ ((4503599627370496 + y : Nat) : Int)) = false := by simp only [decide_eq_false_iff_not]; omega
        have n2 : decide (((4503599627370496 + y : Nat) : Int) < 4503599627370496) = false := by simp only [decide_eq_false_iff_not]; omega
        generalize (4503599627370496 + y : Nat) = M at *
        rw [hs]
        clear hm c1 c2 hs
        go_enter Try.func118, Try.ntmps118
        go_wp2
        go_ret
        exact ⟨rfl, rfl⟩
      · obtain ⟨x, hx⟩ : ∃ x : Nat, e + 1075 = (x : Int) := ⟨(e + 1075).toNat, by omega⟩
        have hs : scB (4503599627370496 + y) e = x * 4503599627370496 + y := by unfold scB; rw [if_neg c1, if_neg c2, if_neg c3, show (e + 1075).toNat = x by omega]; omega
        have c6 : (x : Int) < 2047 := by omega
        have ho := or_52 x y (by omega) (by omega)
        have c7 : IntKind.i64.wrap ((((4503599627370496 + y : Nat) : Int)) - 4503599627370496) = y := by rw [IntKind.wrap_i64]; omega
        have c9 : IntKind.u64.wrap (y : Int) = y := by rw [IntKind.wrap_u64]; omega
        have c10 : IntKind.u64.wrap ((x : Int) * 4503599627370496) = (x : Int) * 4503599627370496 := by rw [IntKind.wrap_u64]; omega
        have n1 : decide ((9007199254740992 : Int) ≤ ((4503599627370496 + y : Nat) : Int)) = false := by simp only [decide_eq_false_iff_not]; omega
        have n2 : decide (((4503599627370496 + y : Nat) : Int) < 4503599627370496) = false := by simp only [decide_eq_false_iff_not]; omega
        generalize hM : (4503599627370496 + y : Nat) = M at *
        rw [hs]
        have ho' : bits .or .u64 ((x : Int) * 4503599627370496) (y : Int) = ((x * 4503599627370496 + y : Nat) : Int) := by rw [← ho, Int.natCast_mul, show ((4503599627370496 : Nat) : Int) = 4503599627370496 from rfl]
        clear ho hm c1 c2 hs hM
        generalize (M : Int) = MI at *
        generalize x * 4503599627370496 + y = A at *
        go_enter Try.func118, Try.ntmps118
        go_wp2
        go_ret
        exact ⟨rfl, rfl⟩
/-- A finite float's whole number and its place. -/
def pmB (b : Nat) : Nat := if b / 4503599627370496 % 2048 = 0 then b % 4503599627370496 else 4503599627370496 + b % 4503599627370496
def peB (b : Nat) : Int := if b / 4503599627370496 % 2048 = 0 then -1074 else ((b / 4503599627370496 % 2048 : Nat) : Int) - 1075
def sgB (b : Nat) : Bool := decide (9223372036854775808 ≤ b)
set_option maxRecDepth 100000 in
set_option maxHeartbeats 400000 in
theorem rparts_any (b : Nat) (w : World) (hb : b < 18446744073709551616) : Calls Try.prog 59 #[.float .f64 b] w fun r w' => r = .returned (.tuple #[.int .u64 ((pmB b : Nat) : Int), .int .i64 (peB b), .bool (sgB b)]) ∧ w' = w := by
  have x20 := ext20
  obtain ⟨E, hE⟩ : ∃ E, b / 4503599627370496 % 2048 = E := ⟨_, rfl⟩
  obtain ⟨f, hf⟩ : ∃ f, b % 4503599627370496 = f := ⟨_, rfl⟩
  have a1 : bits .and .u64 ((b : Int) / 4503599627370496) 2047 = (E : Int) := by
    rw [show (b : Int) / 4503599627370496 = ((b / 4503599627370496 : Nat) : Int) by omega, show (2047 : Int) = ((2047 : Nat) : Int) from rfl, u64_and_nat _ _ (by omega) (by decide), show (2047 : Nat) = 2 ^ 11 - 1 from rfl, and_low, ← hE]
  have a2 : bits .and .u64 (b : Int) 4503599627370495 = (f : Int) := by
    rw [show (4503599627370495 : Int) = ((4503599627370495 : Nat) : Int) from rfl, u64_and_nat _ _ hb (by decide), show (4503599627370495 : Nat) = 2 ^ 52 - 1 from rfl, and_low, ← hf]
  have a3 : bits .or .u64 (f : Int) 4503599627370496 = ((4503599627370496 + f : Nat) : Int) := by
    rw [show (4503599627370496 : Int) = ((4503599627370496 : Nat) : Int) from rfl, u64_or_nat _ _ (by omega) (by decide), Nat.or_comm, nat_join 52 _ _ (by decide) (by rw [show (2 : Nat) ^ 52 = 4503599627370496 from rfl]; omega)]
  have a4 : decide ((b : Int) / 9223372036854775808 = 1) = sgB b := by unfold sgB; rw [decide_eq_decide]; omega
  have a5 : ((b : Int) / 9223372036854775808 == 1) = sgB b := a4
  have h3 : (E : Int) < 2048 := by omega
  unfold pmB peB
  rw [hE, hf]
  clear a4 hf
  generalize sgB b = S at *
  by_cases c : E = 0
  · subst c
    rw [if_pos rfl, if_pos rfl]
    clear hE
    go_enter Try.func59, Try.ntmps59
    go_wp2
    go_ret3
    exact ⟨rfl, rfl⟩
  · rw [if_neg c, if_neg c]
    have c' : ((E : Int) == 0) = false := by simp; omega
    clear hE
    go_enter Try.func59, Try.ntmps59
    go_wp2
    go_ret3
    exact ⟨rfl, rfl⟩
set_option maxRecDepth 100000 in
set_option maxHeartbeats 400000 in
theorem negative_any (b : Nat) (w : World) (hb : b < 18446744073709551616) : Calls Try.prog 58 #[.float .f64 b] w fun r w' => r = .returned (.bool (sgB b)) ∧ w' = w := by
  have x20 := ext20
  have a4 : decide ((b : Int) / 9223372036854775808 = 1) = sgB b := by unfold sgB; rw [decide_eq_decide]; omega
  have a5 : ((b : Int) / 9223372036854775808 == 1) = sgB b := a4
  clear a4
  generalize sgB b = S at *
  go_enter Try.func58, Try.ntmps58
  go_wp2
  go_ret
  exact ⟨rfl, rfl⟩
set_option maxRecDepth 100000 in
set_option maxHeartbeats 400000 in
theorem None_any (w : World) : Calls Try.prog 56 #[] w fun r w' => r = .returned (.float .f64 9218868437227405313) ∧ w' = w := by
  have x10 := ext10
  go_enter Try.func56, Try.ntmps56
  go_wp2
  go_ret
  exact ⟨rfl, rfl⟩
end Go.Proofs.Ytdhfkdopcphjlab
