/-
  The contracts of a layout's sign bit and of the bits with it; how many bits a number has. Condition: the layout is one that is reckoned with.
-/
import Derived.Test.YtdhfkdopcphjlabShelf
import Derived.Test.YtdhfkdopcphjlabLy
import Derived.Test.YtdhfkdopcphjlabCm
namespace Go.Proofs.Ytdhfkdopcphjlab
open Go.RowKit
theorem len_log : ∀ x : Nat, x ≠ 0 → x < 2 ^ 64 → Lib.bitLen x = x.log2 + 1 := by
  intro x
  induction x using Nat.strongRecOn with
  | _ x ih =>
    intro h0 h
    rw [Lib.bitLen_half x h0 h]
    by_cases h1 : x = 1
    · subst h1; decide
    · rw [ih (x / 2) (by omega) (by omega) (by omega), Nat.log2_def x, if_pos (by omega)]
      omega
theorem len_at {x n : Nat} (h1 : 2 ^ n ≤ x) (h2 : x < 2 ^ (n + 1)) (h : x < 2 ^ 64) : Lib.bitLen x = n + 1 := by
  have h0 : x ≠ 0 := by have := Nat.two_pow_pos n; omega
  rw [len_log x h0 h, (Nat.log2_eq_iff h0).2 ⟨h1, h2⟩]
theorem len_ones {k : Nat} (h1 : 1 ≤ k) (h2 : k ≤ 63) : Lib.bitLen (2 ^ k - 1) = k := by
  obtain ⟨n, rfl⟩ : ∃ n, k = n + 1 := ⟨k - 1, by omega⟩
  have hp : 2 ^ (n + 1) = 2 * 2 ^ n := by rw [Nat.pow_succ]; omega
  have := Nat.two_pow_pos n
  have hb := pow_le64 h2
  refine len_at ?_ ?_ ?_ <;> omega
theorem len_any (x : Nat) (w : World) (h : x < 18446744073709551616) : Calls Try.prog 114 #[.int .u64 (x : Int)] w fun e w' => e = .returned (.int .i64 (Lib.bitLen x : Nat)) ∧ w' = w := by
  have key := Try.bits_Len64 (x : Int) w (by omega) (by omega)
  rwa [Int.toNat_natCast] at key
set_option maxHeartbeats 2000000 in

theorem sign_any {p k : Nat} {bi : Int} (L : Lay p k bi) (w : World) : Calls Try.prog 120 #[lay p k bi] w fun e w' => e = .returned (.int .u64 ((2 ^ (p + k) : Nat) : Int)) ∧ Below w.heap.size w w' := by
  have h1 := L.p1
  have h2 := L.p52
  have h3 := L.k2
  have h4 := L.k11
  have hk := L.kk
  have h5 := u64_pow (p + k) (by omega)
  have k65 := fun w => len_any (2 ^ k - 1) w (by omega)
  rw [len_ones (by omega) (by omega)] at k65
  obtain ⟨P, hP⟩ : ∃ P : Int, ((2 ^ (p + k) : Nat) : Int) = P := ⟨_, rfl⟩
  obtain ⟨K, hK⟩ : ∃ K : Int, ((2 ^ k - 1 : Nat) : Int) = K := ⟨_, rfl⟩
  unfold lay
  rw [hP] at h5 ⊢
  rw [hK] at k65 ⊢
  have h6 : ((p : Int) + (k : Int)).toNat = p + k := by omega
  clear L hK hk hP
  go_enter Try.func120, Try.ntmps120
  have i6 : IntKind.i64.wrap ((p : Int) + (k : Int)) = (p : Int) + (k : Int) := by simp [IntKind.wrap, IntKind.bits, IntKind.signed]; omega
  go_wp2_with fail
  rename_i Q' K' hcont
  refine wp_region_vals (a1 := ?a1) (grown _) [.pointer (some ⟨w.heap.size, 0, none⟩), .int .i64 p, .pointer (some ⟨w.heap.size, 1, none⟩), .int .u64 K, .int .i64 k, .int .i64 (p + k), .int .u64 P, .int .u64 P] 10 rfl (by kernel_rfl) (by kernel_rfl) (grown_start _) ⟨?o0, ?o1, ?o2, ?o3, ?o4, ?o5, ?o6, ?o7, trivial⟩ ?ha ?hdone
  case ha => simp [putAll, Act.put]; exact rfl
  case o0 => exact ValOp.pure (grown_steady _ 0) [(1, .pointer (some ⟨w.heap.size, 0, none⟩))] rfl (fun _ _ h2 => ⟨(h2 1 (by kernel_rfl)).trans rfl, trivial⟩) (by kernel_rfl) (fun _ _ _ _ _ => by kernel_rfl)
  case o1 => exact ValOp.pure (grown_steady _ 1) [(3, .pointer (some ⟨w.heap.size, 0, none⟩))] rfl (fun _ h1 _ => ⟨h1 0 3 (by kernel_rfl), trivial⟩) (by kernel_rfl) (fun _ _ _ hg _ => run_read rfl rfl (run_cell (below_at (heap_alloc_last _ _) hg) rfl (Try.isAgg3 _)))
  case o2 => exact ValOp.pure (grown_steady _ 2) [(1, .pointer (some ⟨w.heap.size, 0, none⟩))] rfl (fun _ _ h2 => ⟨(h2 1 (by kernel_rfl)).trans rfl, trivial⟩) (by kernel_rfl) (fun _ _ _ _ _ => by kernel_rfl)
  case o3 => exact ValOp.pure (grown_steady _ 3) [(5, .pointer (some ⟨w.heap.size, 1, none⟩))] rfl (fun _ h1 _ => ⟨h1 2 5 (by kernel_rfl), trivial⟩) (by kernel_rfl) (fun _ _ _ hg _ => run_read rfl rfl (run_cell (below_at (heap_alloc_last _ _) hg) rfl (Try.isAgg66 _)))
  case o4 => exact ValOp.call (grown_steady _ 4) [(6, .int .u64 K)] rfl (fun _ h1 _ => ⟨h1 3 6 (by kernel_rfl), trivial⟩) (by kernel_rfl) 114 #[.int .u64 K] (fun _ => by kernel_rfl) (fun _ w _ => (k65 w).mono (fun _ _ ⟨e, h⟩ => ⟨e, h ▸ Below.refl _ _⟩))
  case o5 => exact ValOp.pure (grown_steady _ 5) [(4, .int .i64 p), (7, .int .i64 k)] rfl (fun _ h1 _ => ⟨h1 1 4 (by kernel_rfl), h1 4 7 (by kernel_rfl), trivial⟩) (by kernel_rfl) (fun _ _ _ _ _ => run_bin (a := .int .i64 p) (b := .int .i64 k) rfl rfl rfl (by kernel_rfl) (by simp [go_sem, i6]))
  case o6 => exact ValOp.pure (grown_steady _ 6) [(8, .int .i64 (p + k))] rfl (fun _ h1 _ => ⟨h1 5 8 (by kernel_rfl), trivial⟩) (by kernel_rfl) (fun _ _ _ _ _ => run_bin (a := .int .u64 1) (b := .int .i64 (p + k)) rfl rfl rfl (by kernel_rfl) (by simp [go_sem, h6, h5]))
  case o7 => exact ValOp.pure (grown_steady _ 7) [(9, .int .u64 P)] rfl (fun _ h1 _ => ⟨h1 6 9 (by kernel_rfl), trivial⟩) (by kernel_rfl) (fun _ _ _ _ _ => by kernel_rfl)
  intro w1 s1 _ hb
  refine hcont _ _ ?_
  go_wp2
  go_ret
  exact ⟨rfl, ((Below.refl _ _).alloc (Nat.le_refl _) _).trans (hb.mono (by simp))⟩
theorem or_high {n x : Nat} (h : x < 2 ^ n) : x ||| 2 ^ n = x + 2 ^ n := by
  rw [Nat.or_comm, nat_join n (2 ^ n) x (Nat.mod_self _) h, Nat.add_comm]
theorem signed_any {p k : Nat} {bi : Int} (L : Lay p k bi) (x : Nat) (neg : Bool) (w : World) (hx : x < 2 ^ (p + k)) : Calls Try.prog 129 #[lay p k bi, .int .u64 (x : Int), .bool neg] w fun e w' => e = .returned (.int .u64 (((if neg then 2 ^ (p + k) else 0) + x : Nat) : Int)) ∧ Below w.heap.size w w' := by
  have k56 := fun w => sign_any L w
  have ht := L.top
  have ho := u64_or_nat x (2 ^ (p + k)) (by omega) (by omega)
  rw [or_high hx] at ho
  obtain ⟨P, hP⟩ : ∃ P : Nat, 2 ^ (p + k) = P := ⟨_, rfl⟩
  obtain ⟨K, hK⟩ : ∃ K : Int, ((2 ^ k - 1 : Nat) : Int) = K := ⟨_, rfl⟩
  unfold lay at k56 ⊢
  rw [hP] at k56 ho hx ht ⊢
  rw [hK] at k56 ⊢
  clear L hK hP
  cases neg
  · go_enter Try.func129, Try.ntmps129
    go_wp2
    go_ret
    exact ⟨by simp, (Below.refl _ _).alloc (Nat.le_refl _) _⟩
  · go_enter Try.func129, Try.ntmps129
    go_wp2_with (go_at_call 120; refine (k56 _).mono ?_)
    rintro e w1 ⟨rfl, b1⟩
    have B1 : Hid (Below w.heap.size w w1) := ((Below.refl _ _).alloc (Nat.le_refl _) _).trans (b1.mono (by simp))
    clear b1
    go_wp2
    go_ret
    refine ⟨?_, B1.out⟩
    simp [Int.add_comm]
end Go.Proofs.Ytdhfkdopcphjlab
