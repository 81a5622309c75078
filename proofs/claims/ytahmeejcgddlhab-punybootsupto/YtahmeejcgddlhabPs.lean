/-
  What is looked for in a list: what is no scalar value, what is below the first and not basic.
-/
import Derived.Test.YtahmeejcgddlhabPp
namespace Go.Proofs.Ytahmeejcgddlhab
open Go.RowKit
set_option maxRecDepth 100000 in
theorem valid_any (n : Int) (w : World) : Calls Try.prog 31 #[.int .i32 n] w fun e w' => e = .returned (.bool (isSc n)) ∧ w' = w := by
  unfold isSc
  by_cases c1 : 0 ≤ n
  · have c1' : decide (0 ≤ n) = true := decide_eq_true c1
    by_cases c2 : n < 55296
    · have c2' : decide (n < 55296) = true := decide_eq_true c2
      rw [c1', c2']
      go_enter Try.func31, Try.ntmps31
      go_wp2
      go_ret
      exact ⟨rfl, rfl⟩
    · have c2' : decide (n < 55296) = false := decide_eq_false c2
      rw [c1', c2']
      by_cases c3 : 57343 < n
      · have c3' : decide (57343 < n) = true := decide_eq_true c3
        rw [c3']
        by_cases c4 : n ≤ 1114111
        · have c4' : decide (n ≤ 1114111) = true := decide_eq_true c4
          rw [c4']
          go_enter Try.func31, Try.ntmps31
          go_wp2
          go_ret
          exact ⟨rfl, rfl⟩
        · have c4' : decide (n ≤ 1114111) = false := decide_eq_false c4
          rw [c4']
          go_enter Try.func31, Try.ntmps31
          go_wp2
          go_ret
          exact ⟨rfl, rfl⟩
      · have c3' : decide (57343 < n) = false := decide_eq_false c3
        rw [c3']
        go_enter Try.func31, Try.ntmps31
        go_wp2
        go_ret
        simp
  · have c1' : decide (0 ≤ n) = false := decide_eq_false c1
    have c3 : ¬ 57343 < n := by omega
    have c3' : decide (57343 < n) = false := decide_eq_false c3
    rw [c1', c3']
    go_enter Try.func31, Try.ntmps31
    go_wp2
    go_ret
    simp
set_option maxRecDepth 100000 in
theorem clo30_any (n : Int) (w : World) : Calls Try.prog 30 #[.int .i32 n] w fun e w' => e = .returned (.bool (!isSc n)) ∧ Below w.heap.size w w' := by
  have k := fun w => valid_any n w
  generalize isSc n = B at *
  go_enter Try.func30, Try.ntmps30
  go_wp2_with (go_at_call 31; refine (k _).mono ?_; rintro e w' ⟨rfl, hw⟩; rw [hw]; clear hw)
  go_ret
  exact ⟨rfl, Below.refl _ _⟩
/-- Below the first, and not basic. -/
def isLo (p : Bt) (n : Int) : Bool := decide (n < p.first) && !(decide (n < p.first) && decide (n < 128))
set_option maxRecDepth 100000 in
set_option maxHeartbeats 1000000 in
theorem clo32_any (p : Bt) (n : Int) (b : Nat) (w : World) (h32 : -2147483648 ≤ n ∧ n ≤ 2147483647) (hb : w.heap[b]? = some (.cells (bv p) 23 (0, 0))) : Calls Try.prog 32 #[.int .i32 n, .pointer (some ⟨b, 0, none⟩)] w fun e w' => e = .returned (.bool (isLo p n)) ∧ Below w.heap.size w w' := by
  have cb := fun (j : Nat) (u : Value) (h : (bv p)[j]? = some u) => (show w.cell? ⟨b, j, none⟩ = some u by simp [World.cell?, hb, h])
  have a0 := cb 0 (.int .i64 p.base) rfl
  have a1 := cb 1 (.int .i64 p.least) rfl
  have a2 := cb 2 (.int .i64 p.most) rfl
  have a3 := cb 3 (.int .i64 p.skew) rfl
  have a4 := cb 4 (.int .i64 p.damp) rfl
  have a5 := cb 5 (.int .i64 p.bias) rfl
  have a6 := cb 6 (.int .i64 p.first) rfl
  have a7 := cb 7 (.int .u8 p.btw) rfl
  have k := fun w => basic_any p n w
  have hw : IntKind.i64.wrap n = n := IntWalk.i64_in _ ⟨by omega, by omega⟩
  unfold isLo
  clear cb hb
  by_cases c : n < p.first
  · have c' : decide (n < p.first) = true := decide_eq_true c
    rw [c'] at k ⊢
    generalize (true && decide (n < 128)) = B at *
    go_enter Try.func32, Try.ntmps32
    go_wp2_with (go_at_call 33; refine (k _).mono ?_)
    rintro e w1 ⟨rfl, b1⟩
    go_wp2
    go_ret
    exact ⟨by simp, b1⟩
  · have c' : decide (n < p.first) = false := decide_eq_false c
    rw [c']
    clear k
    go_enter Try.func32, Try.ntmps32
    go_wp2
    go_ret
    exact ⟨by simp, Below.refl _ _⟩
/-- The first place where it holds; -1: none. -/
def ixF (pr : Int → Bool) (zs : List Int) : Nat → Nat → Int
  | 0, _ => -1
  | f + 1, k => if pr (zs.getD k 0) = true then (k : Int) else ixF pr zs f (k + 1)
set_option maxRecDepth 100000 in
set_option maxHeartbeats 1000000 in
theorem idx30_any (zs : List Int) (v : Value) (w : World) (hz : zs.length < 1048577) (h : Rds .i32 w v zs) : Calls Try.prog 29 #[v, .func (.func 30) #[] #[]] w fun e w' => e = .returned (.int .i64 (ixF (fun n => !isSc n) zs zs.length 0)) ∧ Below w.heap.size w w' := by
  have HD : Hid (Rds .i32 w v zs) := h
  obtain ⟨a, c, rfl, hc⟩ := h
  obtain ⟨F, hF⟩ : ∃ F, Hid (ixF (fun n => !isSc n) zs zs.length 0 = F) := ⟨_, rfl⟩
  rw [hF.out]
  have HS : Hid (zs.length < 1048577) := hz
  clear hz
  go_enter Try.func29, Try.ntmps29
  go_wp2
  go_loopw [5, 8] (fun _ x wr => ∃ k : Nat, x = .int .i64 (k : Int) ∧ k ≤ zs.length ∧ Hid (ixF (fun n => !isSc n) zs (zs.length - k) k = F) ∧ Hid (Below w.heap.size w wr)) (fun _ x _ => zs.length - (RowKit.intOf x).toNat)
  case atStart => exact ⟨0, rfl, Nat.zero_le _, hF.out, Below.refl _ _⟩
  case round =>
    clear hF
    obtain ⟨k, rfl, hk, hJ, hB⟩ := hrel
    by_cases c1 : k < zs.length
    · have c2 : (k : Int) < (zs.length : Int) := by omega
      have c3 : decide ((k : Int) < (zs.length : Int)) = true := decide_eq_true c2
      obtain ⟨g, off, rfl, -⟩ := hc (by omega)
      have hcl : wr.cell? ⟨g, off + k, none⟩ = some (.int .i32 (zs.getD k 0)) := by
        obtain ⟨a1, cc1, e1, h1⟩ := HD.out.below hB.out
        cases e1
        obtain ⟨g1, o1, e1, h1⟩ := h1 (by omega)
        cases e1
        exact h1 k c1
      have hJ2 := hJ.out
      rw [show zs.length - k = (zs.length - (k + 1)) + 1 by omega, ixF] at hJ2
      have k9 : (k : Int) ≤ 9007199254740992 := by have := HS.out; omega
      have hbs := hB.out.size
      have kc := fun w => clo30_any (zs.getD k 0) w
      generalize zs.getD k 0 = Y at *
      clear hc
      cases hp : (fun n => !isSc n) Y with
      | true =>
        rw [if_pos hp] at hJ2
        have HE : Hid (F = (k : Int)) := hJ2.symm
        simp only [hp] at kc
        clear hJ hJ2 hp
        go_wp2_with (go_at_call 30; refine (kc _).mono ?_)
        rintro e w1 ⟨rfl, b1⟩
        have hB1 : Hid (Below w.heap.size w w1) := hB.out.trans (b1.mono hbs)
        clear b1 kc
        go_wp2
        go_ret
        rw [HE.out]
        exact ⟨rfl, hB1.out⟩
      | false =>
        rw [if_neg (by simp [hp])] at hJ2
        have HE : Hid (ixF (fun n => !isSc n) zs (zs.length - (k + 1)) (k + 1) = F) := hJ2
        simp only [hp] at kc
        clear hJ hJ2 hp
        go_wp2_with (go_at_call 30; refine (kc _).mono ?_)
        rintro e w1 ⟨rfl, b1⟩
        have hB1 : Hid (Below w.heap.size w w1) := hB.out.trans (b1.mono hbs)
        clear b1 kc
        go_wp2
        refine ⟨⟨k + 1, by simp, by omega, HE, hB1⟩, ?_⟩
        simp [RowKit.intOf]; omega
    · obtain rfl : k = zs.length := by omega
      have c3 : decide ((zs.length : Int) < (zs.length : Int)) = false := by simp
      have hJ2 := hJ.out
      rw [Nat.sub_self, ixF] at hJ2
      subst hJ2
      clear hJ
      go_wp2
      go_ret
      exact ⟨rfl, hB.out⟩
set_option maxRecDepth 100000 in
set_option maxHeartbeats 1000000 in
theorem idx32_any (p : Bt) (b : Nat) (zs : List Int) (v : Value) (w : World) (hz : zs.length < 1048577) (h : Rds .i32 w v zs) (hb : w.heap[b]? = some (.cells (bv p) 23 (0, 0))) (h32 : ∀ j, -2147483648 ≤ zs.getD j 0 ∧ zs.getD j 0 ≤ 2147483647) : Calls Try.prog 29 #[v, .func (.func 32) #[] #[.pointer (some ⟨b, 0, none⟩)]] w fun e w' => e = .returned (.int .i64 (ixF (isLo p) zs zs.length 0)) ∧ Below w.heap.size w w' := by
  have HD : Hid (Rds .i32 w v zs) := h
  obtain ⟨a, c, rfl, hc⟩ := h
  obtain ⟨F, hF⟩ : ∃ F, Hid (ixF (isLo p) zs zs.length 0 = F) := ⟨_, rfl⟩
  rw [hF.out]
  have HS : Hid (zs.length < 1048577) := hz
  clear hz
  have hbl := (Array.getElem?_eq_some_iff.1 hb).1
  have hbb : Hid (w.heap[b]? = some (.cells (bv p) 23 (0, 0))) := hb
  clear hb
  go_enter Try.func29, Try.ntmps29
  go_wp2
  go_loopw [5, 8] (fun _ x wr => ∃ k : Nat, x = .int .i64 (k : Int) ∧ k ≤ zs.length ∧ Hid (ixF (isLo p) zs (zs.length - k) k = F) ∧ Hid (Below w.heap.size w wr)) (fun _ x _ => zs.length - (RowKit.intOf x).toNat)
  case atStart => exact ⟨0, rfl, Nat.zero_le _, hF.out, Below.refl _ _⟩
  case round =>
    clear hF
    obtain ⟨k, rfl, hk, hJ, hB⟩ := hrel
    by_cases c1 : k < zs.length
    · have c2 : (k : Int) < (zs.length : Int) := by omega
      have c3 : decide ((k : Int) < (zs.length : Int)) = true := decide_eq_true c2
      obtain ⟨g, off, rfl, -⟩ := hc (by omega)
      have hcl : wr.cell? ⟨g, off + k, none⟩ = some (.int .i32 (zs.getD k 0)) := by
        obtain ⟨a1, cc1, e1, h1⟩ := HD.out.below hB.out
        cases e1
        obtain ⟨g1, o1, e1, h1⟩ := h1 (by omega)
        cases e1
        exact h1 k c1
      have hJ2 := hJ.out
      rw [show zs.length - k = (zs.length - (k + 1)) + 1 by omega, ixF] at hJ2
      have k9 : (k : Int) ≤ 9007199254740992 := by have := HS.out; omega
      have hbs := hB.out.size
      have kc := fun w h => clo32_any p (zs.getD k 0) b w (h32 _) h
      generalize zs.getD k 0 = Y at *
      clear hc
      cases hp : (isLo p) Y with
      | true =>
        rw [if_pos hp] at hJ2
        have HE : Hid (F = (k : Int)) := hJ2.symm
        simp only [hp] at kc
        clear hJ hJ2 hp
        go_wp2_with (go_at_call 32; refine (kc _ ?hb).mono ?_)
        case hb => exact (hB.out.block b hbl).trans hbb.out
        rintro e w1 ⟨rfl, b1⟩
        have hB1 : Hid (Below w.heap.size w w1) := hB.out.trans (b1.mono hbs)
        clear b1 kc
        go_wp2
        go_ret
        rw [HE.out]
        exact ⟨rfl, hB1.out⟩
      | false =>
        rw [if_neg (by simp [hp])] at hJ2
        have HE : Hid (ixF (isLo p) zs (zs.length - (k + 1)) (k + 1) = F) := hJ2
        simp only [hp] at kc
        clear hJ hJ2 hp
        go_wp2_with (go_at_call 32; refine (kc _ ?hb).mono ?_)
        case hb => exact (hB.out.block b hbl).trans hbb.out
        rintro e w1 ⟨rfl, b1⟩
        have hB1 : Hid (Below w.heap.size w w1) := hB.out.trans (b1.mono hbs)
        clear b1 kc
        go_wp2
        refine ⟨⟨k + 1, by simp, by omega, HE, hB1⟩, ?_⟩
        simp [RowKit.intOf]; omega
    · obtain rfl : k = zs.length := by omega
      have c3 : decide ((zs.length : Int) < (zs.length : Int)) = false := by simp
      have hJ2 := hJ.out
      rw [Nat.sub_self, ixF] at hJ2
      subst hJ2
      clear hJ
      go_wp2
      go_ret
      exact ⟨rfl, hB.out⟩
end Go.Proofs.Ytahmeejcgddlhab
