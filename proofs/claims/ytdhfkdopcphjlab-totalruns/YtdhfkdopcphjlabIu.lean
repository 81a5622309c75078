/-
  The contract of inUnits: a whole number over a power of two, rounded to the even one of two equally near. Conditions: what is shifted to the left fits 64 bits.
-/
import Derived.Test.YtdhfkdopcphjlabPe
import Derived.Test.YtdhfkdopcphjlabXt
namespace Go.Proofs.Ytdhfkdopcphjlab
open Go.RowKit
/-- m over 2^s, rounded. -/
def rnd (m s : Nat) : Nat := if 2 ^ s < 2 * (m % 2 ^ s) ∨ (2 ^ s = 2 * (m % 2 ^ s) ∧ m / 2 ^ s % 2 = 1) then m / 2 ^ s + 1 else m / 2 ^ s
def inU (m : Nat) (s : Int) : Nat := if s ≤ 0 then m * 2 ^ (-s).toNat else rnd m s.toNat
set_option maxHeartbeats 2000000 in
theorem inU_left (m t : Nat) (w : World) (ht : t ≤ 63) (hm : m * 2 ^ t < 18446744073709551616) : Calls Try.prog 132 #[.int .u64 (m : Int), .int .i64 (-(t : Int))] w fun e w' => e = .returned (.int .u64 ((m * 2 ^ t : Nat) : Int)) ∧ w' = w := by
  have h1 : IntKind.u64.wrap ((m : Int) * 2 ^ t) = ((m * 2 ^ t : Nat) : Int) := by
    rw [pow_int, ← Int.natCast_mul, u64_small _ (by omega)]
  generalize ((m * 2 ^ t : Nat) : Int) = R at *
  go_enter Try.func132, Try.ntmps132
  go_wp2
  go_ret
  exact ⟨rfl, rfl⟩
set_option maxHeartbeats 2000000 in
theorem inU_far (m : Nat) (s : Int) (w : World) (hs : 64 < s) : Calls Try.prog 132 #[.int .u64 (m : Int), .int .i64 s] w fun e w' => e = .returned (.int .u64 0) ∧ w' = w := by
  go_enter Try.func132, Try.ntmps132
  go_wp2
  go_ret
  exact ⟨rfl, rfl⟩
set_option maxHeartbeats 2000000 in
theorem inU_up (m s WH RS : Nat) (w : World) (h1 : (1 : Int) ≤ (s : Int)) (h2 : (s : Int) ≤ 64) (hp : Hid (((m : Int) / 2 ^ s = WH) ∧ (IntKind.u64.wrap ((m : Int) * 2 ^ (64 - s)) = RS) ∧ ((64 - (s : Int)).toNat = 64 - s) ∧ (IntKind.i64.wrap (64 - (s : Int)) = 64 - (s : Int)) ∧ ((WH : Int) + 1 < 18446744073709551616) ∧ ((9223372036854775808 : Int) < RS))) : Calls Try.prog 132 #[.int .u64 (m : Int), .int .i64 (s : Int)] w fun e w' => e = .returned (.int .u64 ((WH : Int) + 1)) ∧ Below w.heap.size w w' := by
  go_enter Try.func132, Try.ntmps132
  go_wp2_with fail
  obtain ⟨hWH, hRS, hts, h64, hW, c1⟩ := hp.out
  refine wp_region_vals (a1 := ?a1r5n1) (grown _) [.int .u64 m, .int .i64 s, .int .u64 WH, .int .u64 m, .int .i64 s, .int .i64 (64 - s), .int .u64 RS, .int .u64 WH, .int .u64 RS] 36 rfl (by kernel_rfl) (by kernel_rfl) (grown_start _) ⟨?o0r5n1, ?o1r5n1, ?o2r5n1, ?o3r5n1, ?o4r5n1, ?o5r5n1, ?o6r5n1, ?o7r5n1, ?o8r5n1, trivial⟩ ?har5n1 ?hdoner5n1
  case har5n1 => simp [putAll, Act.put]; exact rfl
  case o0r5n1 => exact ValOp.pure (grown_steady _ 0) [(0, .int .u64 m)] rfl (fun _ _ h2 => ⟨(h2 0 (by kernel_rfl)).trans rfl, trivial⟩) (by kernel_rfl) (fun _ _ _ _ _ => by kernel_rfl)
  case o1r5n1 => exact ValOp.pure (grown_steady _ 1) [(1, .int .i64 s)] rfl (fun _ _ h2 => ⟨(h2 1 (by kernel_rfl)).trans rfl, trivial⟩) (by kernel_rfl) (fun _ _ _ _ _ => by kernel_rfl)
  case o2r5n1 => exact ValOp.pure (grown_steady _ 2) [(15, .int .u64 m), (16, .int .i64 s)] rfl (fun _ h1 _ => ⟨h1 0 15 (by kernel_rfl), h1 1 16 (by kernel_rfl), trivial⟩) (by kernel_rfl) (fun _ _ _ _ _ => run_bin (a := .int .u64 m) (b := .int .i64 s) rfl rfl rfl (by kernel_rfl) (by simp [go_sem, hWH]))
  case o3r5n1 => exact ValOp.pure (grown_steady _ 3) [(0, .int .u64 m)] rfl (fun _ _ h2 => ⟨(h2 0 (by kernel_rfl)).trans rfl, trivial⟩) (by kernel_rfl) (fun _ _ _ _ _ => by kernel_rfl)
  case o4r5n1 => exact ValOp.pure (grown_steady _ 4) [(1, .int .i64 s)] rfl (fun _ _ h2 => ⟨(h2 1 (by kernel_rfl)).trans rfl, trivial⟩) (by kernel_rfl) (fun _ _ _ _ _ => by kernel_rfl)
  case o5r5n1 => exact ValOp.pure (grown_steady _ 5) [(19, .int .i64 s)] rfl (fun _ h1 _ => ⟨h1 4 19 (by kernel_rfl), trivial⟩) (by kernel_rfl) (fun _ _ _ _ _ => run_bin (a := .int .i64 64) (b := .int .i64 s) rfl rfl rfl (by kernel_rfl) (by simp [go_sem, h64]))
  case o6r5n1 => exact ValOp.pure (grown_steady _ 6) [(18, .int .u64 m), (20, .int .i64 (64 - s))] rfl (fun _ h1 _ => ⟨h1 3 18 (by kernel_rfl), h1 5 20 (by kernel_rfl), trivial⟩) (by kernel_rfl) (fun _ _ _ _ _ => run_bin (a := .int .u64 m) (b := .int .i64 (64 - s)) rfl rfl rfl (by kernel_rfl) (by simp [go_sem, hRS, hts]))
  case o7r5n1 => exact ValOp.pure (grown_steady _ 7) [(17, .int .u64 WH)] rfl (fun _ h1 _ => ⟨h1 2 17 (by kernel_rfl), trivial⟩) (by kernel_rfl) (fun _ _ _ _ _ => by kernel_rfl)
  case o8r5n1 => exact ValOp.pure (grown_steady _ 8) [(21, .int .u64 RS)] rfl (fun _ h1 _ => ⟨h1 6 21 (by kernel_rfl), trivial⟩) (by kernel_rfl) (fun _ _ _ _ _ => by kernel_rfl)
  intro w1 s1 _ hb
  replace hb : Below _ _ w1 := hb
  clear hts h64 hWH hRS hp
  refine (by assumption : ∀ (a : Act) (w : World), Code.wp Try.prog (Code.seq _ _) _ a w → _) _ _ ?_
  have hb := Hid.mk hb
  go_wp2
  go_ret
  exact ⟨rfl, hb.out⟩
set_option maxHeartbeats 2000000 in
theorem inU_odd (m s WH RS : Nat) (w : World) (h1 : (1 : Int) ≤ (s : Int)) (h2 : (s : Int) ≤ 64) (hp : Hid (((m : Int) / 2 ^ s = WH) ∧ (IntKind.u64.wrap ((m : Int) * 2 ^ (64 - s)) = RS) ∧ ((64 - (s : Int)).toNat = 64 - s) ∧ (IntKind.i64.wrap (64 - (s : Int)) = 64 - (s : Int)) ∧ ((WH : Int) + 1 < 18446744073709551616) ∧ (RS = 9223372036854775808) ∧ (bits .and .u64 (WH : Int) 1 = 1))) : Calls Try.prog 132 #[.int .u64 (m : Int), .int .i64 (s : Int)] w fun e w' => e = .returned (.int .u64 ((WH : Int) + 1)) ∧ Below w.heap.size w w' := by
  go_enter Try.func132, Try.ntmps132
  go_wp2_with fail
  obtain ⟨hWH, hRS, hts, h64, hW, c1, c2⟩ := hp.out
  subst c1
  refine wp_region_vals (a1 := ?a1r5n2) (grown _) [.int .u64 m, .int .i64 s, .int .u64 WH, .int .u64 m, .int .i64 s, .int .i64 (64 - s), .int .u64 9223372036854775808, .int .u64 WH, .int .u64 9223372036854775808] 36 rfl (by kernel_rfl) (by kernel_rfl) (grown_start _) ⟨?o0r5n2, ?o1r5n2, ?o2r5n2, ?o3r5n2, ?o4r5n2, ?o5r5n2, ?o6r5n2, ?o7r5n2, ?o8r5n2, trivial⟩ ?har5n2 ?hdoner5n2
  case har5n2 => simp [putAll, Act.put]; exact rfl
  case o0r5n2 => exact ValOp.pure (grown_steady _ 0) [(0, .int .u64 m)] rfl (fun _ _ h2 => ⟨(h2 0 (by kernel_rfl)).trans rfl, trivial⟩) (by kernel_rfl) (fun _ _ _ _ _ => by kernel_rfl)
  case o1r5n2 => exact ValOp.pure (grown_steady _ 1) [(1, .int .i64 s)] rfl (fun _ _ h2 => ⟨(h2 1 (by kernel_rfl)).trans rfl, trivial⟩) (by kernel_rfl) (fun _ _ _ _ _ => by kernel_rfl)
  case o2r5n2 => exact ValOp.pure (grown_steady _ 2) [(15, .int .u64 m), (16, .int .i64 s)] rfl (fun _ h1 _ => ⟨h1 0 15 (by kernel_rfl), h1 1 16 (by kernel_rfl), trivial⟩) (by kernel_rfl) (fun _ _ _ _ _ => run_bin (a := .int .u64 m) (b := .int .i64 s) rfl rfl rfl (by kernel_rfl) (by simp [go_sem, hWH]))
  case o3r5n2 => exact ValOp.pure (grown_steady _ 3) [(0, .int .u64 m)] rfl (fun _ _ h2 => ⟨(h2 0 (by kernel_rfl)).trans rfl, trivial⟩) (by kernel_rfl) (fun _ _ _ _ _ => by kernel_rfl)
  case o4r5n2 => exact ValOp.pure (grown_steady _ 4) [(1, .int .i64 s)] rfl (fun _ _ h2 => ⟨(h2 1 (by kernel_rfl)).trans rfl, trivial⟩) (by kernel_rfl) (fun _ _ _ _ _ => by kernel_rfl)
  case o5r5n2 => exact ValOp.pure (grown_steady _ 5) [(19, .int .i64 s)] rfl (fun _ h1 _ => ⟨h1 4 19 (by kernel_rfl), trivial⟩) (by kernel_rfl) (fun _ _ _ _ _ => run_bin (a := .int .i64 64) (b := .int .i64 s) rfl rfl rfl (by kernel_rfl) (by simp [go_sem, h64]))
  case o6r5n2 => exact ValOp.pure (grown_steady _ 6) [(18, .int .u64 m), (20, .int .i64 (64 - s))] rfl (fun _ h1 _ => ⟨h1 3 18 (by kernel_rfl), h1 5 20 (by kernel_rfl), trivial⟩) (by kernel_rfl) (fun _ _ _ _ _ => run_bin (a := .int .u64 m) (b := .int .i64 (64 - s)) rfl rfl rfl (by kernel_rfl) (by simp [go_sem, hRS, hts]))
  case o7r5n2 => exact ValOp.pure (grown_steady _ 7) [(17, .int .u64 WH)] rfl (fun _ h1 _ => ⟨h1 2 17 (by kernel_rfl), trivial⟩) (by kernel_rfl) (fun _ _ _ _ _ => by kernel_rfl)
  case o8r5n2 => exact ValOp.pure (grown_steady _ 8) [(21, .int .u64 9223372036854775808)] rfl (fun _ h1 _ => ⟨h1 6 21 (by kernel_rfl), trivial⟩) (by kernel_rfl) (fun _ _ _ _ _ => by kernel_rfl)
  intro w1 s1 _ hb
  replace hb : Below _ _ w1 := hb
  clear hts h64 hWH hRS hp
  refine (by assumption : ∀ (a : Act) (w : World), Code.wp Try.prog (Code.seq _ _) _ a w → _) _ _ ?_
  have hb := Hid.mk hb
  go_wp2
  go_ret
  exact ⟨rfl, hb.out⟩
set_option maxHeartbeats 2000000 in
theorem inU_even (m s WH RS : Nat) (w : World) (h1 : (1 : Int) ≤ (s : Int)) (h2 : (s : Int) ≤ 64) (hp : Hid (((m : Int) / 2 ^ s = WH) ∧ (IntKind.u64.wrap ((m : Int) * 2 ^ (64 - s)) = RS) ∧ ((64 - (s : Int)).toNat = 64 - s) ∧ (IntKind.i64.wrap (64 - (s : Int)) = 64 - (s : Int)) ∧ ((WH : Int) + 1 < 18446744073709551616) ∧ (RS = 9223372036854775808) ∧ (bits .and .u64 (WH : Int) 1 = 0))) : Calls Try.prog 132 #[.int .u64 (m : Int), .int .i64 (s : Int)] w fun e w' => e = .returned (.int .u64 ((WH : Int))) ∧ Below w.heap.size w w' := by
  go_enter Try.func132, Try.ntmps132
  go_wp2_with fail
  obtain ⟨hWH, hRS, hts, h64, hW, c1, c2⟩ := hp.out
  subst c1
  refine wp_region_vals (a1 := ?a1r5n3) (grown _) [.int .u64 m, .int .i64 s, .int .u64 WH, .int .u64 m, .int .i64 s, .int .i64 (64 - s), .int .u64 9223372036854775808, .int .u64 WH, .int .u64 9223372036854775808] 36 rfl (by kernel_rfl) (by kernel_rfl) (grown_start _) ⟨?o0r5n3, ?o1r5n3, ?o2r5n3, ?o3r5n3, ?o4r5n3, ?o5r5n3, ?o6r5n3, ?o7r5n3, ?o8r5n3, trivial⟩ ?har5n3 ?hdoner5n3
  case har5n3 => simp [putAll, Act.put]; exact rfl
  case o0r5n3 => exact ValOp.pure (grown_steady _ 0) [(0, .int .u64 m)] rfl (fun _ _ h2 => ⟨(h2 0 (by kernel_rfl)).trans rfl, trivial⟩) (by kernel_rfl) (fun _ _ _ _ _ => by kernel_rfl)
  case o1r5n3 => exact ValOp.pure (grown_steady _ 1) [(1, .int .i64 s)] rfl (fun _ _ h2 => ⟨(h2 1 (by kernel_rfl)).trans rfl, trivial⟩) (by kernel_rfl) (fun _ _ _ _ _ => by kernel_rfl)
  case o2r5n3 => exact ValOp.pure (grown_steady _ 2) [(15, .int .u64 m), (16, .int .i64 s)] rfl (fun _ h1 _ => ⟨h1 0 15 (by kernel_rfl), h1 1 16 (by kernel_rfl), trivial⟩) (by kernel_rfl) (fun _ _ _ _ _ => run_bin (a := .int .u64 m) (b := .int .i64 s) rfl rfl rfl (by kernel_rfl) (by simp [go_sem, hWH]))
  case o3r5n3 => exact ValOp.pure (grown_steady _ 3) [(0, .int .u64 m)] rfl (fun _ _ h2 => ⟨(h2 0 (by kernel_rfl)).trans rfl, trivial⟩) (by kernel_rfl) (fun _ _ _ _ _ => by kernel_rfl)
  case o4r5n3 => exact ValOp.pure (grown_steady _ 4) [(1, .int .i64 s)] rfl (fun _ _ h2 => ⟨(h2 1 (by kernel_rfl)).trans rfl, trivial⟩) (by kernel_rfl) (fun _ _ _ _ _ => by kernel_rfl)
  case o5r5n3 => exact ValOp.pure (grown_steady _ 5) [(19, .int .i64 s)] rfl (fun _ h1 _ => ⟨h1 4 19 (by kernel_rfl), trivial⟩) (by kernel_rfl) (fun _ _ _ _ _ => run_bin (a := .int .i64 64) (b := .int .i64 s) rfl rfl rfl (by kernel_rfl) (by simp [go_sem, h64]))
  case o6r5n3 => exact ValOp.pure (grown_steady _ 6) [(18, .int .u64 m), (20, .int .i64 (64 - s))] rfl (fun _ h1 _ => ⟨h1 3 18 (by kernel_rfl), h1 5 20 (by kernel_rfl), trivial⟩) (by kernel_rfl) (fun _ _ _ _ _ => run_bin (a := .int .u64 m) (b := .int .i64 (64 - s)) rfl rfl rfl (by kernel_rfl) (by simp [go_sem, hRS, hts]))
  case o7r5n3 => exact ValOp.pure (grown_steady _ 7) [(17, .int .u64 WH)] rfl (fun _ h1 _ => ⟨h1 2 17 (by kernel_rfl), trivial⟩) (by kernel_rfl) (fun _ _ _ _ _ => by kernel_rfl)
  case o8r5n3 => exact ValOp.pure (grown_steady _ 8) [(21, .int .u64 9223372036854775808)] rfl (fun _ h1 _ => ⟨h1 6 21 (by kernel_rfl), trivial⟩) (by kernel_rfl) (fun _ _ _ _ _ => by kernel_rfl)
  intro w1 s1 _ hb
  replace hb : Below _ _ w1 := hb
  clear hts h64 hWH hRS hp
  refine (by assumption : ∀ (a : Act) (w : World), Code.wp Try.prog (Code.seq _ _) _ a w → _) _ _ ?_
  have hb := Hid.mk hb
  go_wp2
  go_ret
  exact ⟨rfl, hb.out⟩
set_option maxHeartbeats 2000000 in
theorem inU_down (m s WH RS : Nat) (w : World) (h1 : (1 : Int) ≤ (s : Int)) (h2 : (s : Int) ≤ 64) (hp : Hid (((m : Int) / 2 ^ s = WH) ∧ (IntKind.u64.wrap ((m : Int) * 2 ^ (64 - s)) = RS) ∧ ((64 - (s : Int)).toNat = 64 - s) ∧ (IntKind.i64.wrap (64 - (s : Int)) = 64 - (s : Int)) ∧ ((WH : Int) + 1 < 18446744073709551616) ∧ ((RS : Int) < 9223372036854775808))) : Calls Try.prog 132 #[.int .u64 (m : Int), .int .i64 (s : Int)] w fun e w' => e = .returned (.int .u64 ((WH : Int))) ∧ Below w.heap.size w w' := by
  go_enter Try.func132, Try.ntmps132
  go_wp2_with fail
  obtain ⟨hWH, hRS, hts, h64, hW, c1⟩ := hp.out
  refine wp_region_vals (a1 := ?a1r5n4) (grown _) [.int .u64 m, .int .i64 s, .int .u64 WH, .int .u64 m, .int .i64 s, .int .i64 (64 - s), .int .u64 RS, .int .u64 WH, .int .u64 RS] 36 rfl (by kernel_rfl) (by kernel_rfl) (grown_start _) ⟨?o0r5n4, ?o1r5n4, ?o2r5n4, ?o3r5n4, ?o4r5n4, ?o5r5n4, ?o6r5n4, ?o7r5n4, ?o8r5n4, trivial⟩ ?har5n4 ?hdoner5n4
  case har5n4 => simp [putAll, Act.put]; exact rfl
  case o0r5n4 => exact ValOp.pure (grown_steady _ 0) [(0, .int .u64 m)] rfl (fun _ _ h2 => ⟨(h2 0 (by kernel_rfl)).trans rfl, trivial⟩) (by kernel_rfl) (fun _ _ _ _ _ => by kernel_rfl)
  case o1r5n4 => exact ValOp.pure (grown_steady _ 1) [(1, .int .i64 s)] rfl (fun _ _ h2 => ⟨(h2 1 (by kernel_rfl)).trans rfl, trivial⟩) (by kernel_rfl) (fun _ _ _ _ _ => by kernel_rfl)
  case o2r5n4 => exact ValOp.pure (grown_steady _ 2) [(15, .int .u64 m), (16, .int .i64 s)] rfl (fun _ h1 _ => ⟨h1 0 15 (by kernel_rfl), h1 1 16 (by kernel_rfl), trivial⟩) (by kernel_rfl) (fun _ _ _ _ _ => run_bin (a := .int .u64 m) (b := .int .i64 s) rfl rfl rfl (by kernel_rfl) (by simp [go_sem, hWH]))
  case o3r5n4 => exact ValOp.pure (grown_steady _ 3) [(0, .int .u64 m)] rfl (fun _ _ h2 => ⟨(h2 0 (by kernel_rfl)).trans rfl, trivial⟩) (by kernel_rfl) (fun _ _ _ _ _ => by kernel_rfl)
  case o4r5n4 => exact ValOp.pure (grown_steady _ 4) [(1, .int .i64 s)] rfl (fun _ _ h2 => ⟨(h2 1 (by kernel_rfl)).trans rfl, trivial⟩) (by kernel_rfl) (fun _ _ _ _ _ => by kernel_rfl)
  case o5r5n4 => exact ValOp.pure (grown_steady _ 5) [(19, .int .i64 s)] rfl (fun _ h1 _ => ⟨h1 4 19 (by kernel_rfl), trivial⟩) (by kernel_rfl) (fun _ _ _ _ _ => run_bin (a := .int .i64 64) (b := .int .i64 s) rfl rfl rfl (by kernel_rfl) (by simp [go_sem, h64]))
  case o6r5n4 => exact ValOp.pure (grown_steady _ 6) [(18, .int .u64 m), (20, .int .i64 (64 - s))] rfl (fun _ h1 _ => ⟨h1 3 18 (by kernel_rfl), h1 5 20 (by kernel_rfl), trivial⟩) (by kernel_rfl) (fun _ _ _ _ _ => run_bin (a := .int .u64 m) (b := .int .i64 (64 - s)) rfl rfl rfl (by kernel_rfl) (by simp [go_sem, hRS, hts]))
  case o7r5n4 => exact ValOp.pure (grown_steady _ 7) [(17, .int .u64 WH)] rfl (fun _ h1 _ => ⟨h1 2 17 (by kernel_rfl), trivial⟩) (by kernel_rfl) (fun _ _ _ _ _ => by kernel_rfl)
  case o8r5n4 => exact ValOp.pure (grown_steady _ 8) [(21, .int .u64 RS)] rfl (fun _ h1 _ => ⟨h1 6 21 (by kernel_rfl), trivial⟩) (by kernel_rfl) (fun _ _ _ _ _ => by kernel_rfl)
  intro w1 s1 _ hb
  replace hb : Below _ _ w1 := hb
  clear hts h64 hWH hRS hp
  have d1 : decide ((9223372036854775808 : Int) < (RS : Int)) = false := decide_eq_false (by omega)
  have d2 : ((RS : Int) == 9223372036854775808) = false := by simp; omega
  clear c1
  refine (by assumption : ∀ (a : Act) (w : World), Code.wp Try.prog (Code.seq _ _) _ a w → _) _ _ ?_
  have hb := Hid.mk hb
  go_wp2
  go_ret
  exact ⟨rfl, hb.out⟩
theorem rest_is (m s : Nat) (h2 : s ≤ 64) : IntKind.u64.wrap ((m : Int) * 2 ^ (64 - s)) = ((m % 2 ^ s * 2 ^ (64 - s) : Nat) : Int) := by
  have e : (2 : Nat) ^ s * 2 ^ (64 - s) = 18446744073709551616 := by
    rw [← Nat.pow_add, show s + (64 - s) = 64 by omega]
  have h3 := Nat.div_add_mod m (2 ^ s)
  have hw : IntKind.u64.wrap ((m : Int) * 2 ^ (64 - s)) = ((m : Int) * 2 ^ (64 - s)) % 18446744073709551616 := by simp [IntKind.wrap, IntKind.bits, IntKind.signed]
  rw [hw, pow_int, ← Int.natCast_mul]
  have h4 : m * 2 ^ (64 - s) = 18446744073709551616 * (m / 2 ^ s) + m % 2 ^ s * 2 ^ (64 - s) := by
    conv => lhs; rw [← h3]
    rw [Nat.add_mul, Nat.mul_comm (2 ^ s) (m / 2 ^ s), Nat.mul_assoc, e, Nat.mul_comm]
  have h5 : m % 2 ^ s * 2 ^ (64 - s) < 18446744073709551616 := by
    rw [← e]; exact Nat.mul_lt_mul_of_pos_right (Nat.mod_lt _ (Nat.two_pow_pos _)) (Nat.two_pow_pos _)
  rw [h4]
  generalize m % 2 ^ s * 2 ^ (64 - s) = y at *
  omega
theorem bit0 (n : Nat) (h : n < 18446744073709551616) : bits .and .u64 (n : Int) 1 = ((n % 2 : Nat) : Int) := by
  have h1 := u64_and_nat n 1 h (by decide)
  rw [nat_mask1] at h1
  exact h1
theorem inU_any (m : Nat) (s : Int) (w : World) (hm : m < 18446744073709551616) (hs : s ≤ 0 → -s ≤ 63 ∧ m * 2 ^ (-s).toNat < 18446744073709551616) : Calls Try.prog 132 #[.int .u64 (m : Int), .int .i64 s] w fun e w' => e = .returned (.int .u64 (inU m s : Nat)) ∧ Below w.heap.size w w' := by
  unfold inU
  by_cases c0 : s ≤ 0
  · rw [if_pos c0]
    obtain ⟨h1, h2⟩ := hs c0
    obtain ⟨t, ht⟩ : ∃ t : Nat, s = -(t : Int) := ⟨(-s).toNat, by omega⟩
    subst ht
    have e : (-(-(t : Int))).toNat = t := by omega
    rw [e] at h2 ⊢
    refine (inU_left m t w (by omega) h2).mono ?_
    rintro e' w' ⟨rfl, rfl⟩
    exact ⟨rfl, Below.refl _ _⟩
  · rw [if_neg c0]
    obtain ⟨t, ht⟩ : ∃ t : Nat, s = (t : Int) := ⟨s.toNat, by omega⟩
    subst ht
    rw [Int.toNat_natCast]
    by_cases c1 : 64 < t
    · have hz : rnd m t = 0 := by
        have hp : 2 ^ 65 ≤ 2 ^ t := Nat.pow_le_pow_right (by omega) (by omega)
        have hlt : m < 2 ^ t := by omega
        unfold rnd
        rw [Nat.mod_eq_of_lt hlt, Nat.div_eq_of_lt hlt, if_neg (by omega)]
      rw [hz]
      refine (inU_far m t w (by omega)).mono ?_
      rintro e' w' ⟨rfl, rfl⟩
      exact ⟨rfl, Below.refl _ _⟩
    · have hR := rest_is m t (by omega)
      have hW : (m : Int) / 2 ^ t = ((m / 2 ^ t : Nat) : Int) := by rw [pow_int, ← Int.natCast_ediv]
      have h2t : 2 ≤ 2 ^ t := Nat.pow_le_pow_right (n := 2) (i := 1) (by omega) (by omega)
      have hWl : m / 2 ^ t ≤ m / 2 := Nat.div_le_div_left h2t (by omega)
      have h64 : IntKind.i64.wrap (64 - (t : Int)) = 64 - (t : Int) := i64_in _ (by omega) (by omega)
      have hb0 := bit0 (m / 2 ^ t) (by omega)
      have e : (2 : Nat) ^ t * 2 ^ (64 - t) = 18446744073709551616 := by
        rw [← Nat.pow_add, show t + (64 - t) = 64 by omega]
      have hq := Nat.two_pow_pos (64 - t)
      have hcmp : ∀ x y : Nat, x < y ↔ x * 2 ^ (64 - t) < y * 2 ^ (64 - t) := fun x y => ⟨fun h => Nat.mul_lt_mul_of_pos_right h hq, fun h => Nat.lt_of_mul_lt_mul_right h⟩
      have g1 : 2 ^ t < 2 * (m % 2 ^ t) ↔ 9223372036854775808 < m % 2 ^ t * 2 ^ (64 - t) := by
        rw [hcmp, e, Nat.mul_assoc]; omega
      have g2 : 2 * (m % 2 ^ t) < 2 ^ t ↔ m % 2 ^ t * 2 ^ (64 - t) < 9223372036854775808 := by
        rw [hcmp, e, Nat.mul_assoc]; omega
      unfold rnd
      by_cases a1 : 2 ^ t < 2 * (m % 2 ^ t)
      · rw [if_pos (.inl a1)]
        have key := inU_up m t (m / 2 ^ t) _ w (by omega) (by omega) (show Hid _ from ⟨hW, hR, by omega, h64, by omega, by have := g1.1 a1; omega⟩)
        have e3 : ((m / 2 ^ t : Nat) : Int) + 1 = ((m / 2 ^ t + 1 : Nat) : Int) := by omega
        rw [e3] at key
        exact key
      · by_cases a2 : 2 * (m % 2 ^ t) < 2 ^ t
        · rw [if_neg (by omega)]
          exact inU_down m t (m / 2 ^ t) _ w (by omega) (by omega) (show Hid _ from ⟨hW, hR, by omega, h64, by omega, by have := g2.1 a2; omega⟩)
        · have a3 : m % 2 ^ t * 2 ^ (64 - t) = 9223372036854775808 := by
            have h7 : ¬ 9223372036854775808 < m % 2 ^ t * 2 ^ (64 - t) := fun h => a1 (g1.2 h)
            have h8 : ¬ m % 2 ^ t * 2 ^ (64 - t) < 9223372036854775808 := fun h => a2 (g2.2 h)
            omega
          rcases two_cases (Nat.mod_lt (m / 2 ^ t) (by omega : 2 > 0)) with a4 | a4
          · rw [if_neg (by omega)]
            rw [a4] at hb0
            exact inU_even m t (m / 2 ^ t) _ w (by omega) (by omega) (show Hid _ from ⟨hW, hR, by omega, h64, by omega, a3, hb0⟩)
          · rw [if_pos (.inr ⟨by omega, a4⟩)]
            rw [a4] at hb0
            have key := inU_odd m t (m / 2 ^ t) _ w (by omega) (by omega) (show Hid _ from ⟨hW, hR, by omega, h64, by omega, a3, hb0⟩)
            have e3 : ((m / 2 ^ t : Nat) : Int) + 1 = ((m / 2 ^ t + 1 : Nat) : Int) := by omega
            rw [e3] at key
            exact key
end Go.Proofs.Ytdhfkdopcphjlab
