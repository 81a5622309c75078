/-
  Small functions of Punycode: bounds, what is basic, digits, thresholds. Conditions: numbers that fit.
-/
import Derived.Test.YtahmeejcgddlhabProg
import Derived.WalkKit
import Derived.Below
import Derived.Deep.RegionWith
import Derived.Deep.WholeRow
namespace Go.Proofs.Ytahmeejcgddlhab
open Go.RowKit
/-- Parameters. -/
structure Bt where
  base : Int
  least : Int
  most : Int
  skew : Int
  damp : Int
  bias : Int
  first : Int
  btw : Int
def bv (p : Bt) : Array Value := #[.int .i64 p.base, .int .i64 p.least, .int .i64 p.most, .int .i64 p.skew, .int .i64 p.damp, .int .i64 p.bias, .int .i64 p.first, .int .u8 p.btw]
def usual : Bt := ⟨36, 1, 26, 38, 700, 72, 128, 45⟩
set_option maxRecDepth 100000 in
theorem within_any (n l m : Int) (w : World) : Calls Try.prog 17 #[.int .i64 n, .int .i64 l, .int .i64 m] w fun e w' => e = .returned (.bool (decide (l ≤ n) && decide (n ≤ m))) ∧ w' = w := by
  by_cases h1 : l ≤ n
  · by_cases h2 : n ≤ m
    · go_enter Try.func17, Try.ntmps17
      go_wp2
      go_ret
      simp [h1, h2]
    · go_enter Try.func17, Try.ntmps17
      go_wp2
      go_ret
      simp [h2]
  · go_enter Try.func17, Try.ntmps17
    go_wp2
    go_ret
    simp; omega
set_option maxRecDepth 100000 in
theorem surr_any (n : Int) (w : World) : Calls Try.prog 45 #[.int .i64 n] w fun e w' => e = .returned (.bool (decide (55296 ≤ n) && decide (n ≤ 57343))) ∧ w' = w := by
  go_enter Try.func45, Try.ntmps45
  go_wp2_with (go_at_call 17; refine (within_any _ _ _ _).mono ?_; rintro e w' ⟨rfl, rfl⟩)
  go_ret
  exact ⟨rfl, rfl⟩
set_option maxRecDepth 100000 in
theorem basic_any (p : Bt) (c : Int) (w : World) : Calls Try.prog 33 #[.agg (bv p), .int .i64 c] w fun e w' => e = .returned (.bool (decide (c < p.first) && decide (c < 128))) ∧ Below w.heap.size w w' := by
  unfold bv
  have B0 := fun o => (Below.refl w.heap.size w).alloc (Nat.le_refl _) o
  by_cases h1 : c < p.first
  · by_cases h2 : c < 128
    · go_enter Try.func33, Try.ntmps33
      go_wp2
      go_ret
      exact ⟨by simp [h1, h2], B0 _⟩
    · go_enter Try.func33, Try.ntmps33
      go_wp2
      go_ret
      exact ⟨by simp [h2], B0 _⟩
  · go_enter Try.func33, Try.ntmps33
    go_wp2
    go_ret
    exact ⟨by simp; omega, B0 _⟩
/-- The threshold. -/
def thr (p : Bt) (k b : Int) : Int := min (max (k - b) p.least) p.most
set_option maxRecDepth 100000 in
theorem thr_any (p : Bt) (k b : Int) (w : World) (hk : 0 ≤ k) (hk2 : k ≤ 1000000000000) (hb : 0 ≤ b) (hb2 : b ≤ 1000000000000) : Calls Try.prog 53 #[.agg (bv p), .int .i64 k, .int .i64 b] w fun e w' => e = .returned (.int .i64 (thr p k b)) ∧ Below w.heap.size w w' := by
  unfold bv thr
  have B0 := fun o => (Below.refl w.heap.size w).alloc (Nat.le_refl _) o
  go_enter Try.func53, Try.ntmps53
  go_wp2
  all_goals go_ret
  all_goals exact ⟨by simp; omega, B0 _⟩
/-- What a byte is as a digit. -/
def dg (c : Int) : Int := if 97 ≤ c ∧ c ≤ 122 then c - 97 else if 65 ≤ c ∧ c ≤ 90 then c - 65 else if 48 ≤ c ∧ c ≤ 57 then 26 + (c - 48) else -1
set_option maxRecDepth 100000 in
theorem digit_any (c : Int) (w : World) (h0 : 0 ≤ c) (h1 : c < 256) : Calls Try.prog 27 #[.int .u8 c] w fun e w' => e = .returned (.int .i64 (dg c)) ∧ w' = w := by
  unfold dg
  by_cases a1 : 97 ≤ c
  · by_cases a2 : c ≤ 122
    · go_enter Try.func27, Try.ntmps27
      go_wp2
      go_ret
      simp
    · go_enter Try.func27, Try.ntmps27
      go_wp2
      go_ret
      simp
  · by_cases b1 : 65 ≤ c
    · by_cases b2 : c ≤ 90
      · go_enter Try.func27, Try.ntmps27
        go_wp2
        go_ret
        simp
      · go_enter Try.func27, Try.ntmps27
        go_wp2
        go_ret
        simp
    · by_cases c1 : 48 ≤ c
      · by_cases c2 : c ≤ 57
        · go_enter Try.func27, Try.ntmps27
          go_wp2
          go_ret
          simp
        · go_enter Try.func27, Try.ntmps27
          go_wp2
          go_ret
          simp
      · go_enter Try.func27, Try.ntmps27
        go_wp2
        go_ret
        simp
set_option maxRecDepth 100000 in
theorem rdigit_any (c : Int) (w : World) (h0 : 0 ≤ c) (h1 : c < 256) : Calls Try.prog 28 #[.int .u8 c] w fun e w' => e = .returned (.int .i64 (dg c)) ∧ w' = w := by
  unfold dg
  by_cases a1 : 97 ≤ c
  · by_cases a2 : c ≤ 122
    · go_enter Try.func28, Try.ntmps28
      go_wp2
      go_ret
      simp
    · go_enter Try.func28, Try.ntmps28
      go_wp2
      go_ret
      simp
  · by_cases b1 : 65 ≤ c
    · by_cases b2 : c ≤ 90
      · go_enter Try.func28, Try.ntmps28
        go_wp2
        go_ret
        simp
      · go_enter Try.func28, Try.ntmps28
        go_wp2
        go_ret
        simp
    · by_cases c1 : 48 ≤ c
      · by_cases c2 : c ≤ 57
        · go_enter Try.func28, Try.ntmps28
          go_wp2
          go_ret
          simp; omega
        · go_enter Try.func28, Try.ntmps28
          go_wp2
          go_ret
          simp
      · go_enter Try.func28, Try.ntmps28
        go_wp2
        go_ret
        simp
def dgTo (b c : Int) : Int := if dg c < b then dg c else -1
set_option maxRecDepth 100000 in
theorem digitTo_any (b c : Int) (w : World) (h0 : 0 ≤ c) (h1 : c < 256) : Calls Try.prog 18 #[.int .i64 b, .int .u8 c] w fun e w' => e = .returned (.int .i64 (dgTo b c)) ∧ w' = w := by
  unfold dgTo
  have k1 := fun w => digit_any c w h0 h1
  generalize dg c = D at *
  by_cases h : D < b
  · go_enter Try.func18, Try.ntmps18
    go_wp2_with (go_at_call 27; refine (k1 _).mono ?_; rintro e w' ⟨rfl, rfl⟩)
    go_ret
    simp
  · go_enter Try.func18, Try.ntmps18
    go_wp2_with (go_at_call 27; refine (k1 _).mono ?_; rintro e w' ⟨rfl, rfl⟩)
    go_ret
    simp
/-- The byte of a digit. -/
def ltr (d : Int) : Int := if d < 26 then 97 + d else 22 + d
def ltrV (d : Int) : Value := if 0 ≤ d ∧ d ≤ 35 then .tuple #[.int .u8 (ltr d), .int .i64 0] else .tuple #[.int .u8 0, .int .i64 1]
set_option maxRecDepth 100000 in
theorem letter_any (d : Int) (w : World) : Calls Try.prog 58 #[.int .i64 d] w fun e w' => e = .returned (ltrV d) ∧ w' = w := by
  by_cases h0 : 0 ≤ d
  · by_cases h1 : d ≤ 25
    · have t1 : (decide ((0 : Int) ≤ d) && decide (d ≤ 25)) = true := by simp [h0, h1]
      have u1 : IntKind.u8.wrap d = d := IntWalk.u8_in (by omega) (by omega)
      have hv : ltrV d = .tuple #[.int .u8 (97 + d), .int .i64 0] := by unfold ltrV ltr; rw [if_pos ⟨h0, by omega⟩, if_pos (by omega)]
      rw [hv]
      go_enter Try.func58, Try.ntmps58
      go_wp2_with (go_at_call 17; refine (within_any _ _ _ _).mono ?_; rintro e w' ⟨rfl, rfl⟩)
      go_ret2
      exact ⟨rfl, rfl⟩
    · by_cases h2 : d ≤ 35
      · have t1 : (decide ((0 : Int) ≤ d) && decide (d ≤ 25)) = false := by simp [h1]
        have t2 : (decide ((26 : Int) ≤ d) && decide (d ≤ 35)) = true := by simp [h2]; omega
        have hd : 25 < d := by omega
        have hv : ltrV d = .tuple #[.int .u8 (48 + (d - 26)), .int .i64 0] := by unfold ltrV ltr; rw [if_pos ⟨h0, by omega⟩, if_neg (by omega)]; congr 4; omega
        rw [hv]
        go_enter Try.func58, Try.ntmps58
        go_wp2_with (go_at_call 17; refine (within_any _ _ _ _).mono ?_; rintro e w' ⟨rfl, rfl⟩)
        go_ret2
        exact ⟨rfl, rfl⟩
      · have t1 : (decide ((0 : Int) ≤ d) && decide (d ≤ 25)) = false := by simp [h1]
        have t2 : (decide ((26 : Int) ≤ d) && decide (d ≤ 35)) = false := by simp [h2]
        have hv : ltrV d = .tuple #[.int .u8 0, .int .i64 1] := by unfold ltrV; rw [if_neg (by omega)]
        rw [hv]
        go_enter Try.func58, Try.ntmps58
        go_wp2_with (go_at_call 17; refine (within_any _ _ _ _).mono ?_; rintro e w' ⟨rfl, rfl⟩)
        go_ret2
        exact ⟨rfl, rfl⟩
  · have t1 : (decide ((0 : Int) ≤ d) && decide (d ≤ 25)) = false := by simp [h0]
    have t2 : (decide ((26 : Int) ≤ d) && decide (d ≤ 35)) = false := by simp; omega
    have hv : ltrV d = .tuple #[.int .u8 0, .int .i64 1] := by unfold ltrV; rw [if_neg (by omega)]
    rw [hv]
    go_enter Try.func58, Try.ntmps58
    go_wp2_with (go_at_call 17; refine (within_any _ _ _ _).mono ?_; rintro e w' ⟨rfl, rfl⟩)
    go_ret2
    exact ⟨rfl, rfl⟩
set_option maxRecDepth 100000 in
theorem rletter_any (d : Int) (w : World) (h0 : 0 ≤ d) (h1 : d ≤ 35) : Calls Try.prog 24 #[.int .i64 d] w fun e w' => e = .returned (.int .u8 (ltr d)) ∧ w' = w := by
  unfold ltr
  by_cases h : d < 26
  · go_enter Try.func24, Try.ntmps24
    go_wp2
    go_ret
    simp
  · go_enter Try.func24, Try.ntmps24
    go_wp2
    go_ret
    simp; omega
set_option maxRecDepth 100000 in
theorem usual_any (w : World) : Calls Try.prog 14 #[] w fun e w' => e = .returned (.agg (bv usual)) ∧ Below w.heap.size w w' := by
  have B0 := fun o => (Below.refl w.heap.size w).alloc (Nat.le_refl _) o
  go_enter Try.func14, Try.ntmps14
  go_wp2
  exact bodyPost_ret (v := .agg (bv usual)) (by simp [results, Try.results14, go_sem, bv, usual]) rfl ⟨rfl, B0 _⟩
end Go.Proofs.Ytahmeejcgddlhab
