/-
  The contracts of Syllable and Hangul, the program's and the document's. No conditions.
-/
import Derived.Test.YtdjdbabhcdfecaaRows
import Derived.WalkKit
import Derived.OwnWalk
import Derived.Below
namespace Go.Proofs.Ytdjdbabhcdfecaa
open Go.RowKit
/-- The third jamo. -/
def tJ (t : Int) : Int := if t = 0 then 0 else 4519 + t
theorem results_tmp4 {fn : Func} {t u v x : Tmp} (h : fn.results = #[.tmp t, .tmp u, .tmp v, .tmp x]) (tmps : Array Value) (P : Program) (w : World) :
    (results fn tmps).run P w = .ok (.tuple #[tmps.getD t undef, tmps.getD u undef, tmps.getD v undef, tmps.getD x undef]) w := by
  simp [results, h]
set_option maxRecDepth 100000 in
theorem syl_no (p : Int) (w : World) (hp : p < 44032 ∨ 55204 ≤ p) :
    Calls Try.prog 6 #[.int .i32 p] w fun e w' => e = .returned (.tuple #[.int .i32 0, .int .i32 0, .int .i32 0, .bool false]) ∧ w' = w := by
  by_cases h : p < 44032
  · clear hp
    go_enter Try.func6, Try.ntmps6
    go_wp2
    (try simp only [Exit.inBlock, Exit.then]); refine bodyPost_ret (results_tmp4 rfl _ _ _) rfl ?_; exact ⟨rfl, rfl⟩
  · have h2 : 55204 ≤ p := by omega
    have h3 : 55203 < p := by omega
    clear hp
    go_enter Try.func6, Try.ntmps6
    go_wp2
    (try simp only [Exit.inBlock, Exit.then]); refine bodyPost_ret (results_tmp4 rfl _ _ _) rfl ?_; exact ⟨rfl, rfl⟩
set_option maxRecDepth 100000 in
theorem syl_yes (p l v t : Int) (w : World) (hp : p = 44032 + 588 * l + 28 * v + t) (hl : 0 ≤ l) (hl2 : l < 19) (hv : 0 ≤ v) (hv2 : v < 21) (ht : 0 ≤ t) (ht2 : t < 28) :
    Calls Try.prog 6 #[.int .i32 p] w fun e w' => e = .returned (.tuple #[.int .i32 (4352 + l), .int .i32 (4449 + v), .int .i32 (tJ t), .bool true]) ∧ w' = w := by
  have e1 : (p - 44032).tdiv 588 = l := by rw [Int.tdiv_eq_ediv_of_nonneg (by omega)]; omega
  have e2 : (p - 44032).tmod 588 = 28 * v + t := by rw [Int.tmod_eq_emod_of_nonneg (by omega)]; omega
  have e3 : (28 * v + t).tdiv 28 = v := by rw [Int.tdiv_eq_ediv_of_nonneg (by omega)]; omega
  have e4 : (p - 44032).tmod 28 = t := by rw [Int.tmod_eq_emod_of_nonneg (by omega)]; omega
  have h1 : ¬ p < 44032 := by omega
  have h2 : ¬ 55204 ≤ p := by omega
  have h3 : p ≤ 55203 := by omega
  unfold tJ
  by_cases h : t = 0
  · rw [if_pos h]
    clear hp
    go_enter Try.func6, Try.ntmps6
    go_wp2
    (try simp only [Exit.inBlock, Exit.then]); refine bodyPost_ret (results_tmp4 rfl _ _ _) rfl ?_; exact ⟨rfl, rfl⟩
  · rw [if_neg h]
    clear hp
    go_enter Try.func6, Try.ntmps6
    go_wp2
    (try simp only [Exit.inBlock, Exit.then]); refine bodyPost_ret (results_tmp4 rfl _ _ _) rfl ?_; exact ⟨rfl, rfl⟩
set_option maxRecDepth 100000 in
theorem rsyl_no (p : Int) (w : World) (hp : p < 44032 ∨ 55204 ≤ p) :
    Calls Try.prog 7 #[.int .i32 p] w fun e w' => e = .returned (.tuple #[.int .i32 0, .int .i32 0, .int .i32 0, .bool false]) ∧ w' = w := by
  by_cases h : p < 44032
  · clear hp
    go_enter Try.func7, Try.ntmps7
    go_wp2
    (try simp only [Exit.inBlock, Exit.then]); refine bodyPost_ret (results_tmp4 rfl _ _ _) rfl ?_; exact ⟨rfl, rfl⟩
  · have h2 : 55204 ≤ p := by omega
    have h3 : 55203 < p := by omega
    clear hp
    go_enter Try.func7, Try.ntmps7
    go_wp2
    (try simp only [Exit.inBlock, Exit.then]); refine bodyPost_ret (results_tmp4 rfl _ _ _) rfl ?_; exact ⟨rfl, rfl⟩
set_option maxRecDepth 100000 in
theorem rsyl_yes (p l v t : Int) (w : World) (hp : p = 44032 + 588 * l + 28 * v + t) (hl : 0 ≤ l) (hl2 : l < 19) (hv : 0 ≤ v) (hv2 : v < 21) (ht : 0 ≤ t) (ht2 : t < 28) :
    Calls Try.prog 7 #[.int .i32 p] w fun e w' => e = .returned (.tuple #[.int .i32 (4352 + l), .int .i32 (4449 + v), .int .i32 (tJ t), .bool true]) ∧ w' = w := by
  have e1 : (p - 44032).tdiv 588 = l := by rw [Int.tdiv_eq_ediv_of_nonneg (by omega)]; omega
  have e2 : (p - 44032).tmod 588 = 28 * v + t := by rw [Int.tmod_eq_emod_of_nonneg (by omega)]; omega
  have e3 : (28 * v + t).tdiv 28 = v := by rw [Int.tdiv_eq_ediv_of_nonneg (by omega)]; omega
  have e4 : (p - 44032).tmod 28 = t := by rw [Int.tmod_eq_emod_of_nonneg (by omega)]; omega
  have h1 : ¬ p < 44032 := by omega
  have h2 : ¬ 55204 ≤ p := by omega
  have h3 : p ≤ 55203 := by omega
  unfold tJ
  by_cases h : t = 0
  · rw [if_pos h]
    clear hp
    go_enter Try.func7, Try.ntmps7
    go_wp2
    (try simp only [Exit.inBlock, Exit.then]); refine bodyPost_ret (results_tmp4 rfl _ _ _) rfl ?_; exact ⟨rfl, rfl⟩
  · rw [if_neg h]
    clear hp
    go_enter Try.func7, Try.ntmps7
    go_wp2
    (try simp only [Exit.inBlock, Exit.then]); refine bodyPost_ret (results_tmp4 rfl _ _ _) rfl ?_; exact ⟨rfl, rfl⟩
set_option maxRecDepth 100000 in
set_option maxHeartbeats 1000000 in
theorem han_yes (l v t a b c : Int) (w : World) (el : l = 4352 + a) (ev : v = 4449 + b) (et : t = tJ c) (hl : 0 ≤ a) (hl2 : a < 19) (hv : 0 ≤ b) (hv2 : b < 21) (ht : 0 ≤ c) (ht2 : c < 28) :
    Calls Try.prog 8 #[.int .i32 l, .int .i32 v, .int .i32 t] w fun e w' => e = .returned (.tuple #[.int .i32 (44032 + 588 * a + 28 * b + c), .bool true]) ∧ w' = w := by
  have h1 : ¬ l < 4352 := by omega
  have h2 : ¬ 4371 ≤ l := by omega
  have h2' : ¬ 4370 < l := by omega
  have h3 : ¬ v < 4449 := by omega
  have h4 : ¬ 4470 ≤ v := by omega
  have h4' : ¬ 4469 < v := by omega
  unfold tJ at et
  by_cases h : c = 0
  · rw [if_pos h] at et
    subst et
    refine Calls.mono (R := fun e w' => e = .returned (.tuple #[.int .i32 (44032 + 588 * (l - 4352) + 28 * (v - 4449)), .bool true]) ∧ w' = w) ?_ ?_
    · clear el ev
      go_enter Try.func8, Try.ntmps8
      go_wp2
      go_ret2; exact ⟨by go_num, rfl⟩
    · rintro e w' ⟨rfl, rfl⟩
      refine ⟨?_, rfl⟩
      rw [show 44032 + 588 * (l - 4352) + 28 * (v - 4449) = 44032 + 588 * a + 28 * b + c by omega]
  · rw [if_neg h] at et
    have h5 : ¬ t < 4519 := by omega
    have h5' : ¬ t < 4520 := by omega
    have h6 : ¬ 4547 ≤ t := by omega
    have h6' : ¬ 4546 < t := by omega
    have h7 : (t == 0) = false := beq_false_of_ne (by omega)
    have h8 : (t == 4519) = false := beq_false_of_ne (by omega)
    refine Calls.mono (R := fun e w' => e = .returned (.tuple #[.int .i32 (44032 + 588 * (l - 4352) + 28 * (v - 4449) + (t - 4519)), .bool true]) ∧ w' = w) ?_ ?_
    · clear el ev et
      go_enter Try.func8, Try.ntmps8
      go_wp2
      go_ret2; exact ⟨by go_num, rfl⟩
    · rintro e w' ⟨rfl, rfl⟩
      refine ⟨?_, rfl⟩
      rw [show 44032 + 588 * (l - 4352) + 28 * (v - 4449) + (t - 4519) = 44032 + 588 * a + 28 * b + c by omega]
set_option maxRecDepth 100000 in
set_option maxHeartbeats 1000000 in
theorem han_no (l v t : Int) (w : World) (hl : -2147483648 ≤ l) (hl2 : l ≤ 2147483647) (hv : -2147483648 ≤ v) (hv2 : v ≤ 2147483647) (h0 : -2147483648 ≤ t) (h0' : t ≤ 2147483647) (h : l < 4352 ∨ 4371 ≤ l ∨ v < 4449 ∨ 4470 ≤ v ∨ (t ≠ 0 ∧ (t < 4520 ∨ 4547 ≤ t))) :
    Calls Try.prog 8 #[.int .i32 l, .int .i32 v, .int .i32 t] w fun e w' => e = .returned (.tuple #[.int .i32 0, .bool false]) ∧ w' = w := by
  by_cases z : t = 0
  · subst z
    by_cases c1 : l < 4352
    · clear h
      go_enter Try.func8, Try.ntmps8
      go_wp2
      go_ret2; exact ⟨rfl, rfl⟩
    by_cases c2 : 4371 ≤ l
    · have f0 : 4370 < l := by omega
      clear h
      go_enter Try.func8, Try.ntmps8
      go_wp2
      go_ret2; exact ⟨rfl, rfl⟩
    by_cases c3 : v < 4449
    · have f0 : ¬ 4370 < l := by omega
      clear h
      go_enter Try.func8, Try.ntmps8
      go_wp2
      go_ret2; exact ⟨rfl, rfl⟩
    by_cases c4 : 4470 ≤ v
    · have f0 : ¬ 4370 < l := by omega
      have f1 : 4469 < v := by omega
      clear h
      go_enter Try.func8, Try.ntmps8
      go_wp2
      go_ret2; exact ⟨rfl, rfl⟩
    omega
  by_cases z1 : t = 4519
  · subst z1
    clear h
    go_enter Try.func8, Try.ntmps8
    go_wp2
    go_ret2; exact ⟨rfl, rfl⟩
  by_cases z2 : t < 4519
  · by_cases c1 : l < 4352
    · have f0 : (t == 0) = false := beq_false_of_ne (by omega)
      have f1 : (t == 4519) = false := beq_false_of_ne (by omega)
      clear h
      go_enter Try.func8, Try.ntmps8
      go_wp2
      go_ret2; exact ⟨rfl, rfl⟩
    by_cases c2 : 4371 ≤ l
    · have f0 : (t == 0) = false := beq_false_of_ne (by omega)
      have f1 : (t == 4519) = false := beq_false_of_ne (by omega)
      have f2 : 4370 < l := by omega
      clear h
      go_enter Try.func8, Try.ntmps8
      go_wp2
      go_ret2; exact ⟨rfl, rfl⟩
    by_cases c3 : v < 4449
    · have f0 : (t == 0) = false := beq_false_of_ne (by omega)
      have f1 : (t == 4519) = false := beq_false_of_ne (by omega)
      have f2 : ¬ 4370 < l := by omega
      clear h
      go_enter Try.func8, Try.ntmps8
      go_wp2
      go_ret2; exact ⟨rfl, rfl⟩
    by_cases c4 : 4470 ≤ v
    · have f0 : (t == 0) = false := beq_false_of_ne (by omega)
      have f1 : (t == 4519) = false := beq_false_of_ne (by omega)
      have f2 : ¬ 4370 < l := by omega
      have f3 : 4469 < v := by omega
      clear h
      go_enter Try.func8, Try.ntmps8
      go_wp2
      go_ret2; exact ⟨rfl, rfl⟩
    have f0 : (t == 0) = false := beq_false_of_ne (by omega)
    have f1 : (t == 4519) = false := beq_false_of_ne (by omega)
    have f2 : ¬ 4370 < l := by omega
    have f3 : ¬ 4469 < v := by omega
    have f4 : t < 4520 := by omega
    clear h
    go_enter Try.func8, Try.ntmps8
    go_wp2
    go_ret2; exact ⟨rfl, rfl⟩
  by_cases z3 : 4547 ≤ t
  · by_cases c1 : l < 4352
    · have f0 : (t == 0) = false := beq_false_of_ne (by omega)
      have f1 : (t == 4519) = false := beq_false_of_ne (by omega)
      clear h
      go_enter Try.func8, Try.ntmps8
      go_wp2
      go_ret2; exact ⟨rfl, rfl⟩
    by_cases c2 : 4371 ≤ l
    · have f0 : (t == 0) = false := beq_false_of_ne (by omega)
      have f1 : (t == 4519) = false := beq_false_of_ne (by omega)
      have f2 : 4370 < l := by omega
      clear h
      go_enter Try.func8, Try.ntmps8
      go_wp2
      go_ret2; exact ⟨rfl, rfl⟩
    by_cases c3 : v < 4449
    · have f0 : (t == 0) = false := beq_false_of_ne (by omega)
      have f1 : (t == 4519) = false := beq_false_of_ne (by omega)
      have f2 : ¬ 4370 < l := by omega
      clear h
      go_enter Try.func8, Try.ntmps8
      go_wp2
      go_ret2; exact ⟨rfl, rfl⟩
    by_cases c4 : 4470 ≤ v
    · have f0 : (t == 0) = false := beq_false_of_ne (by omega)
      have f1 : (t == 4519) = false := beq_false_of_ne (by omega)
      have f2 : ¬ 4370 < l := by omega
      have f3 : 4469 < v := by omega
      clear h
      go_enter Try.func8, Try.ntmps8
      go_wp2
      go_ret2; exact ⟨rfl, rfl⟩
    have f0 : (t == 0) = false := beq_false_of_ne (by omega)
    have f1 : (t == 4519) = false := beq_false_of_ne (by omega)
    have f2 : ¬ 4370 < l := by omega
    have f3 : ¬ 4469 < v := by omega
    have f4 : ¬ t < 4520 := by omega
    have f5 : 4546 < t := by omega
    clear h
    go_enter Try.func8, Try.ntmps8
    go_wp2
    go_ret2; exact ⟨rfl, rfl⟩
  have z4 : ¬ t < 4520 := by omega
  have z5 : ¬ 4546 < t := by omega
  by_cases c1 : l < 4352
  · have f0 : (t == 0) = false := beq_false_of_ne (by omega)
    have f1 : (t == 4519) = false := beq_false_of_ne (by omega)
    clear h
    go_enter Try.func8, Try.ntmps8
    go_wp2
    go_ret2; exact ⟨rfl, rfl⟩
  by_cases c2 : 4371 ≤ l
  · have f0 : (t == 0) = false := beq_false_of_ne (by omega)
    have f1 : (t == 4519) = false := beq_false_of_ne (by omega)
    have f2 : 4370 < l := by omega
    clear h
    go_enter Try.func8, Try.ntmps8
    go_wp2
    go_ret2; exact ⟨rfl, rfl⟩
  by_cases c3 : v < 4449
  · have f0 : (t == 0) = false := beq_false_of_ne (by omega)
    have f1 : (t == 4519) = false := beq_false_of_ne (by omega)
    have f2 : ¬ 4370 < l := by omega
    clear h
    go_enter Try.func8, Try.ntmps8
    go_wp2
    go_ret2; exact ⟨rfl, rfl⟩
  by_cases c4 : 4470 ≤ v
  · have f0 : (t == 0) = false := beq_false_of_ne (by omega)
    have f1 : (t == 4519) = false := beq_false_of_ne (by omega)
    have f2 : ¬ 4370 < l := by omega
    have f3 : 4469 < v := by omega
    clear h
    go_enter Try.func8, Try.ntmps8
    go_wp2
    go_ret2; exact ⟨rfl, rfl⟩
  omega
set_option maxRecDepth 100000 in
set_option maxHeartbeats 1000000 in
theorem rhan_yes (l v t a b c : Int) (w : World) (el : l = 4352 + a) (ev : v = 4449 + b) (et : t = tJ c) (hl : 0 ≤ a) (hl2 : a < 19) (hv : 0 ≤ b) (hv2 : b < 21) (ht : 0 ≤ c) (ht2 : c < 28) :
    Calls Try.prog 9 #[.int .i32 l, .int .i32 v, .int .i32 t] w fun e w' => e = .returned (.tuple #[.int .i32 (44032 + 588 * a + 28 * b + c), .bool true]) ∧ w' = w := by
  have h1 : ¬ l < 4352 := by omega
  have h2 : ¬ 4371 ≤ l := by omega
  have h2' : ¬ 4370 < l := by omega
  have h3 : ¬ v < 4449 := by omega
  have h4 : ¬ 4470 ≤ v := by omega
  have h4' : ¬ 4469 < v := by omega
  unfold tJ at et
  by_cases h : c = 0
  · rw [if_pos h] at et
    subst et
    refine Calls.mono (R := fun e w' => e = .returned (.tuple #[.int .i32 (44032 + 588 * (l - 4352) + 28 * (v - 4449)), .bool true]) ∧ w' = w) ?_ ?_
    · clear el ev
      go_enter Try.func9, Try.ntmps9
      go_wp2
      go_ret2; exact ⟨by go_num, rfl⟩
    · rintro e w' ⟨rfl, rfl⟩
      refine ⟨?_, rfl⟩
      rw [show 44032 + 588 * (l - 4352) + 28 * (v - 4449) = 44032 + 588 * a + 28 * b + c by omega]
  · rw [if_neg h] at et
    have h5 : ¬ t < 4519 := by omega
    have h5' : ¬ t < 4520 := by omega
    have h6 : ¬ 4547 ≤ t := by omega
    have h6' : ¬ 4546 < t := by omega
    have h7 : (t == 0) = false := beq_false_of_ne (by omega)
    have h8 : (t == 4519) = false := beq_false_of_ne (by omega)
    refine Calls.mono (R := fun e w' => e = .returned (.tuple #[.int .i32 (44032 + 588 * (l - 4352) + 28 * (v - 4449) + (t - 4519)), .bool true]) ∧ w' = w) ?_ ?_
    · clear el ev et
      go_enter Try.func9, Try.ntmps9
      go_wp2
      go_ret2; exact ⟨by go_num, rfl⟩
    · rintro e w' ⟨rfl, rfl⟩
      refine ⟨?_, rfl⟩
      rw [show 44032 + 588 * (l - 4352) + 28 * (v - 4449) + (t - 4519) = 44032 + 588 * a + 28 * b + c by omega]
set_option maxRecDepth 100000 in
set_option maxHeartbeats 1000000 in
theorem rhan_no (l v t : Int) (w : World) (hl : -2147483648 ≤ l) (hl2 : l ≤ 2147483647) (hv : -2147483648 ≤ v) (hv2 : v ≤ 2147483647) (h0 : -2147483648 ≤ t) (h0' : t ≤ 2147483647) (h : l < 4352 ∨ 4371 ≤ l ∨ v < 4449 ∨ 4470 ≤ v ∨ (t ≠ 0 ∧ (t < 4520 ∨ 4547 ≤ t))) :
    Calls Try.prog 9 #[.int .i32 l, .int .i32 v, .int .i32 t] w fun e w' => e = .returned (.tuple #[.int .i32 0, .bool false]) ∧ w' = w := by
  by_cases z : t = 0
  · subst z
    by_cases c1 : l < 4352
    · clear h
      go_enter Try.func9, Try.ntmps9
      go_wp2
      go_ret2; exact ⟨rfl, rfl⟩
    by_cases c2 : 4371 ≤ l
    · have f0 : 4370 < l := by omega
      clear h
      go_enter Try.func9, Try.ntmps9
      go_wp2
      go_ret2; exact ⟨rfl, rfl⟩
    by_cases c3 : v < 4449
    · have f0 : ¬ 4370 < l := by omega
      clear h
      go_enter Try.func9, Try.ntmps9
      go_wp2
      go_ret2; exact ⟨rfl, rfl⟩
    by_cases c4 : 4470 ≤ v
    · have f0 : ¬ 4370 < l := by omega
      have f1 : 4469 < v := by omega
      clear h
      go_enter Try.func9, Try.ntmps9
      go_wp2
      go_ret2; exact ⟨rfl, rfl⟩
    omega
  by_cases z1 : t = 4519
  · subst z1
    by_cases c1 : l < 4352
    · clear h
      go_enter Try.func9, Try.ntmps9
      go_wp2
      go_ret2; exact ⟨rfl, rfl⟩
    by_cases c2 : 4371 ≤ l
    · have f0 : 4370 < l := by omega
      clear h
      go_enter Try.func9, Try.ntmps9
      go_wp2
      go_ret2; exact ⟨rfl, rfl⟩
    by_cases c3 : v < 4449
    · have f0 : ¬ 4370 < l := by omega
      clear h
      go_enter Try.func9, Try.ntmps9
      go_wp2
      go_ret2; exact ⟨rfl, rfl⟩
    by_cases c4 : 4470 ≤ v
    · have f0 : ¬ 4370 < l := by omega
      have f1 : 4469 < v := by omega
      clear h
      go_enter Try.func9, Try.ntmps9
      go_wp2
      go_ret2; exact ⟨rfl, rfl⟩
    have f0 : ¬ 4370 < l := by omega
    have f1 : ¬ 4469 < v := by omega
    clear h
    go_enter Try.func9, Try.ntmps9
    go_wp2
    go_ret2; exact ⟨rfl, rfl⟩
  by_cases z2 : t < 4519
  · by_cases c1 : l < 4352
    · have f0 : (t == 0) = false := beq_false_of_ne (by omega)
      have f1 : (t == 4519) = false := beq_false_of_ne (by omega)
      clear h
      go_enter Try.func9, Try.ntmps9
      go_wp2
      go_ret2; exact ⟨rfl, rfl⟩
    by_cases c2 : 4371 ≤ l
    · have f0 : (t == 0) = false := beq_false_of_ne (by omega)
      have f1 : (t == 4519) = false := beq_false_of_ne (by omega)
      have f2 : 4370 < l := by omega
      clear h
      go_enter Try.func9, Try.ntmps9
      go_wp2
      go_ret2; exact ⟨rfl, rfl⟩
    by_cases c3 : v < 4449
    · have f0 : (t == 0) = false := beq_false_of_ne (by omega)
      have f1 : (t == 4519) = false := beq_false_of_ne (by omega)
      have f2 : ¬ 4370 < l := by omega
      clear h
      go_enter Try.func9, Try.ntmps9
      go_wp2
      go_ret2; exact ⟨rfl, rfl⟩
    by_cases c4 : 4470 ≤ v
    · have f0 : (t == 0) = false := beq_false_of_ne (by omega)
      have f1 : (t == 4519) = false := beq_false_of_ne (by omega)
      have f2 : ¬ 4370 < l := by omega
      have f3 : 4469 < v := by omega
      clear h
      go_enter Try.func9, Try.ntmps9
      go_wp2
      go_ret2; exact ⟨rfl, rfl⟩
    have f0 : (t == 0) = false := beq_false_of_ne (by omega)
    have f1 : (t == 4519) = false := beq_false_of_ne (by omega)
    have f2 : ¬ 4370 < l := by omega
    have f3 : ¬ 4469 < v := by omega
    have f4 : t < 4520 := by omega
    clear h
    go_enter Try.func9, Try.ntmps9
    go_wp2
    go_ret2; exact ⟨rfl, rfl⟩
  by_cases z3 : 4547 ≤ t
  · by_cases c1 : l < 4352
    · have f0 : (t == 0) = false := beq_false_of_ne (by omega)
      have f1 : (t == 4519) = false := beq_false_of_ne (by omega)
      clear h
      go_enter Try.func9, Try.ntmps9
      go_wp2
      go_ret2; exact ⟨rfl, rfl⟩
    by_cases c2 : 4371 ≤ l
    · have f0 : (t == 0) = false := beq_false_of_ne (by omega)
      have f1 : (t == 4519) = false := beq_false_of_ne (by omega)
      have f2 : 4370 < l := by omega
      clear h
      go_enter Try.func9, Try.ntmps9
      go_wp2
      go_ret2; exact ⟨rfl, rfl⟩
    by_cases c3 : v < 4449
    · have f0 : (t == 0) = false := beq_false_of_ne (by omega)
      have f1 : (t == 4519) = false := beq_false_of_ne (by omega)
      have f2 : ¬ 4370 < l := by omega
      clear h
      go_enter Try.func9, Try.ntmps9
      go_wp2
      go_ret2; exact ⟨rfl, rfl⟩
    by_cases c4 : 4470 ≤ v
    · have f0 : (t == 0) = false := beq_false_of_ne (by omega)
      have f1 : (t == 4519) = false := beq_false_of_ne (by omega)
      have f2 : ¬ 4370 < l := by omega
      have f3 : 4469 < v := by omega
      clear h
      go_enter Try.func9, Try.ntmps9
      go_wp2
      go_ret2; exact ⟨rfl, rfl⟩
    have f0 : (t == 0) = false := beq_false_of_ne (by omega)
    have f1 : (t == 4519) = false := beq_false_of_ne (by omega)
    have f2 : ¬ 4370 < l := by omega
    have f3 : ¬ 4469 < v := by omega
    have f4 : ¬ t < 4520 := by omega
    have f5 : 4546 < t := by omega
    clear h
    go_enter Try.func9, Try.ntmps9
    go_wp2
    go_ret2; exact ⟨rfl, rfl⟩
  have z4 : ¬ t < 4520 := by omega
  have z5 : ¬ 4546 < t := by omega
  by_cases c1 : l < 4352
  · have f0 : (t == 0) = false := beq_false_of_ne (by omega)
    have f1 : (t == 4519) = false := beq_false_of_ne (by omega)
    clear h
    go_enter Try.func9, Try.ntmps9
    go_wp2
    go_ret2; exact ⟨rfl, rfl⟩
  by_cases c2 : 4371 ≤ l
  · have f0 : (t == 0) = false := beq_false_of_ne (by omega)
    have f1 : (t == 4519) = false := beq_false_of_ne (by omega)
    have f2 : 4370 < l := by omega
    clear h
    go_enter Try.func9, Try.ntmps9
    go_wp2
    go_ret2; exact ⟨rfl, rfl⟩
  by_cases c3 : v < 4449
  · have f0 : (t == 0) = false := beq_false_of_ne (by omega)
    have f1 : (t == 4519) = false := beq_false_of_ne (by omega)
    have f2 : ¬ 4370 < l := by omega
    clear h
    go_enter Try.func9, Try.ntmps9
    go_wp2
    go_ret2; exact ⟨rfl, rfl⟩
  by_cases c4 : 4470 ≤ v
  · have f0 : (t == 0) = false := beq_false_of_ne (by omega)
    have f1 : (t == 4519) = false := beq_false_of_ne (by omega)
    have f2 : ¬ 4370 < l := by omega
    have f3 : 4469 < v := by omega
    clear h
    go_enter Try.func9, Try.ntmps9
    go_wp2
    go_ret2; exact ⟨rfl, rfl⟩
  omega
end Go.Proofs.Ytdjdbabhcdfecaa
