/-
  The contracts of Mean, of the code and of the document. Conditions: at most 65536 floats, each of 64 bits.
-/
import Derived.Test.YtdhfkdopcphjlabBs
namespace Go.Proofs.Ytdhfkdopcphjlab
open Go.RowKit
set_option maxRecDepth 100000 in
set_option maxHeartbeats 1000000 in
theorem mean_any (bs : List Nat) (v : Value) (w : World) (hb : ∀ b ∈ bs, b < 18446744073709551616) (hl : bs.length ≤ 65536) (h0 : 0 < bs.length) (hr : Rd w v (flt bs)) : Calls Try.prog 16 #[v] w fun e w' => ∃ r, e = .returned (.tuple #[.float .f64 r, .int .i64 0]) ∧ Fr .f64 r (floatBits .quo .f64 (exB bs) (floatOfInt .f64 (bs.length : Int))) ∧ Below w.heap.size w w' := by
  have k25 := exact_any bs v w hb hl hr
  obtain ⟨a0, c0, rfl, -⟩ := hr
  rw [flt_len] at k25 ⊢
  have hl2 : (bs.length : Int) ≤ 65536 := by omega
  have hl3 : ((bs.length : Int) == 0) = false := beq_eq_false_iff_ne.2 (by omega)
  replace k25 : Hid _ := k25
  go_enter Try.func16, Try.ntmps16
  go_wp2_with fail
  refine Calls.mono k25.out ?_
  rintro e w1 ⟨rfl, b1⟩
  have B1 : Hid (Below w.heap.size w w1) := b1
  clear b1 k25
  go_wp2_with (refine wpList_flt rfl .quo .f64 _ _ _ _ rfl rfl _ _ rfl rfl ?_)
  intro r w2 f1 a1
  go_wp2
  go_ret2
  exact ⟨r, rfl, f1.out, B1.out.trans (a1.out.below _)⟩
set_option maxRecDepth 100000 in
set_option maxHeartbeats 1000000 in
theorem rmean_any (bs : List Nat) (v : Value) (w : World) (hb : ∀ b ∈ bs, b < 18446744073709551616) (hl : bs.length ≤ 65536) (hr : Rd w v (flt bs)) : Calls Try.prog 73 #[v] w fun e w' => ∃ r, e = .returned (.float .f64 r) ∧ Fr .f64 r (floatBits .quo .f64 (rxB bs) (floatOfInt .f64 (bs.length : Int))) ∧ Below w.heap.size w w' := by
  have k27 := rexact_any bs v w hb hl hr
  obtain ⟨a0, c0, rfl, -⟩ := hr
  rw [flt_len] at k27 ⊢
  have hl2 : (bs.length : Int) ≤ 65536 := by omega
  replace k27 : Hid _ := k27
  go_enter Try.func73, Try.ntmps73
  go_wp2_with fail
  refine Calls.mono k27.out ?_
  rintro e w1 ⟨rfl, b1⟩
  have B1 : Hid (Below w.heap.size w w1) := b1
  clear b1 k27
  go_wp2_with (refine wpList_flt rfl .quo .f64 _ _ _ _ rfl rfl _ _ rfl rfl ?_)
  intro r w2 f1 a1
  go_wp2
  go_ret
  exact ⟨r, rfl, f1.out, B1.out.trans (a1.out.below _)⟩
set_option maxRecDepth 100000 in
set_option maxHeartbeats 400000 in
theorem mean_nil (p : Option Addr) (c : Nat) (w : World) : Calls Try.prog 16 #[.slice p 0 c] w fun e w' => e = .returned (.tuple #[.float .f64 0, .int .i64 1]) ∧ w' = w := by
  go_enter Try.func16, Try.ntmps16
  go_wp2
  go_ret2
  exact ⟨rfl, rfl⟩
/-- What the sum stands for. -/
def exO (bs : List Nat) : Option Nat := if ((exF bs).n || ((exF bs).a && (exF bs).l)) = true then none else some (exB bs)
theorem near_top (m : Nat) (e : Int) (hm : m < 18446744073709551616) : nearB 52 11 1023 m e ≤ 9218868437227405312 := nearB_le lay64 e hm
theorem ex_is (bs : List Nat) : Is (exB bs) (exO bs) := by
  unfold exO
  cases hc : ((exF bs).n || ((exF bs).a && (exF bs).l))
  · rw [if_neg (by decide)]
    refine ⟨rfl, ?_⟩
    have hr : rz (exZ bs) % 9223372036854775808 ≤ 9218868437227405312 ∧ rz (exZ bs) < 18446744073709551616 := by
      unfold rz
      have h1 := near_top (mantF (exZ bs).natAbs) ((cutF (exZ bs).natAbs : Int) - 2148) (by have := mant_lt (exZ bs).natAbs; omega)
      generalize nearB 52 11 1023 _ _ = X at *
      split <;> omega
    have key : exB bs < 18446744073709551616 ∧ exB bs % 9223372036854775808 ≤ 9218868437227405312 := by
      unfold exB exV
      cases hn : (exF bs).n
      · cases ha : (exF bs).a
        · rw [if_neg (by decide), if_neg (by decide)]
          split
          · decide
          · split
            · decide
            · exact ⟨hr.2, hr.1⟩
        · cases hl : (exF bs).l
          · rw [if_neg (by decide), if_pos rfl, if_neg (by decide)]
            decide
          · rw [hn, ha, hl] at hc
            exact absurd hc (by decide)
      · rw [hn] at hc
        exact absurd hc (by simp)
    exact ⟨by rw [nan64_is key.1]; exact decide_eq_false (by omega), key.1⟩
  · rw [if_pos rfl]
    have e : exB bs = 9221120237041090561 := by
      unfold exB exV
      cases hn : (exF bs).n
      · rw [hn] at hc
        have : (exF bs).a = true ∧ (exF bs).l = true := by simpa using hc
        rw [if_neg (by decide), if_pos this.1, if_pos this.2]
      · rw [if_pos rfl]
    rw [e]
    exact ⟨by decide +kernel, by decide⟩
theorem rx_is (bs : List Nat) : Is (rxB bs) (exO bs) := by
  have h := ex_is bs
  unfold exO at h ⊢
  unfold rxB
  cases hc : ((exF bs).n || ((exF bs).a && (exF bs).l))
  · rw [hc, if_neg (by decide)] at h
    rw [if_neg (by decide), if_neg (by decide)]
    exact h
  · rw [if_pos rfl, if_pos rfl]
    exact ⟨by decide +kernel, by decide⟩
theorem len_is (n : Int) : Is (floatOfInt .f64 n) (inj (floatOfInt .f64 n)) := is_inj (by have := floatOfInt_wf .f64 n; simpa [Lit.wf] using this)
end Go.Proofs.Ytdhfkdopcphjlab
